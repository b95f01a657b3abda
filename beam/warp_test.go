package beam_test

import (
	"math/rand/v2"
	"slices"
	"testing"

	"griffe/api"
	"griffe/beam"
)

func warp(length, stretch, crimp, waste api.Span) api.BeamWarp {
	return api.BeamWarp{Length: length, Stretch: stretch, Crimp: crimp, Waste: waste}
}

// linen is the warp of the chapter's examples.
func linen() api.BeamWarp {
	return warp(span(1000000, 1000000), span(10, 20), span(50, 60), span(1000, 2000))
}

// long returns a warp of so much, as it is in all else.
func long(w api.BeamWarp, length int) api.BeamWarp {
	w.Length = span(length, length)
	return w
}

// cloth returns what a warp gives, as it truly is.
func cloth(length, stretch, crimp, waste int) int {
	woven := down(times(rat(1000+stretch, 1000), length))
	return max(0, down(times(rat(1000-crimp, 1000), woven))-waste)
}

// surely returns what so much of a warp gives at least, by trying all ends of its spans.
func surely(w api.BeamWarp, length int) int {
	var all []int
	for _, s := range []int{w.Stretch.Low, w.Stretch.High} {
		for _, c := range []int{w.Crimp.Low, w.Crimp.High} {
			for _, a := range []int{w.Waste.Low, w.Waste.High} {
				all = append(all, cloth(length, s, c, a))
			}
		}
	}
	return slices.Min(all)
}

// warps returns warps of all kinds: some of them small, others up to the limits.
func warps(r *rand.Rand, many int) []api.BeamWarp {
	all := []api.BeamWarp{linen(), {}, warp(span(0, api.MaxBeamLength), span(0, 200), span(0, 300), span(0, 100000000))}
	for at := range many {
		length, waste := api.MaxBeamLength, api.MaxBeamWaste
		if at%2 == 0 {
			length, waste = 20000, 2000
		}
		all = append(all, warp(spanIn(r, 0, length), spanIn(r, 0, 200), spanIn(r, 0, 300), spanIn(r, 0, waste)))
	}
	return all
}

// invalidWarps returns warps that are not valid.
func invalidWarps() []api.BeamWarp {
	var all []api.BeamWarp
	fields := []struct {
		most  int
		field func(w *api.BeamWarp) *api.Span
	}{
		{10000000000, func(w *api.BeamWarp) *api.Span { return &w.Length }},
		{200, func(w *api.BeamWarp) *api.Span { return &w.Stretch }},
		{300, func(w *api.BeamWarp) *api.Span { return &w.Crimp }},
		{100000000, func(w *api.BeamWarp) *api.Span { return &w.Waste }},
	}
	for _, f := range fields {
		for _, s := range []api.Span{span(-1, 1), span(-1, -1), span(1, 0), span(0, f.most+1), span(f.most+1, f.most+1), span(f.most, f.most-1), span(deep, 0), span(0, far), span(far, deep), span(deep, far)} {
			w := linen()
			*f.field(&w) = s
			all = append(all, w)
		}
	}
	return all
}

// P6.6: warps up to their limits.
func TestWarp(t *testing.T) {
	most := warp(span(10000000000, 10000000000), span(200, 200), span(300, 300), span(100000000, 100000000))
	for _, w := range append(warps(source(8), 100), most) {
		if e := beam.Warp(w); e != api.OK {
			t.Error(w, e)
		}
	}
}

// P6.6, P6.7: the error of a warp comes first.
func TestWarpErrors(t *testing.T) {
	for _, w := range invalidWarps() {
		gives, f := beam.Gives(w)
		if e := beam.Warp(w); e != api.ErrArg || f != api.ErrArg {
			t.Error(w, e, f)
		}
		zero(t, f, gives)
		for _, cloth := range []int{-1, 0, 1, 947400, api.MaxBeamLength, api.MaxBeamLength + 1} {
			if need, e := beam.Need(w, cloth); e != api.ErrArg || need != 0 {
				t.Error(w, cloth, need, e)
			}
		}
	}
}

// P6.6: the example, rounding, waste that is more than there is, and the limits.
func TestGives(t *testing.T) {
	whole := span(0, 0)
	for _, c := range []struct {
		w     api.BeamWarp
		gives api.Span
	}{
		{linen(), span(947400, 968000)},
		{long(linen(), 999999), span(947398, 967998)},
		{api.BeamWarp{}, span(0, 0)},
		{warp(span(10, 20), whole, whole, whole), span(10, 20)},
		{warp(span(10, 20), whole, whole, span(3, 12)), span(0, 17)},
		{warp(span(10, 20), whole, whole, span(21, 21)), span(0, 0)},
		{warp(span(10, 20), whole, whole, span(20, 20)), span(0, 0)},
		{warp(span(999, 999), span(1, 1), whole, whole), span(999, 999)},
		{warp(span(1000, 1000), span(1, 1), span(1, 1), whole), span(999, 999)},
		// Each step is rounded down: 19 * 1.05 is 19.95, and 19 * 0.94 is 17.86; at once it would be 18.75.
		{warp(span(19, 19), span(50, 50), span(60, 60), whole), span(17, 17)},
		{warp(span(1, 1), whole, span(1, 1), whole), span(0, 0)},
		{warp(span(0, 10000000000), span(0, 200), span(0, 300), span(0, 100000000)), span(0, 12000000000)},
		{warp(span(10000000000, 10000000000), span(200, 200), span(300, 300), span(100000000, 100000000)), span(8300000000, 8300000000)},
	} {
		if gives, e := beam.Gives(c.w); e != api.OK || gives != c.gives {
			t.Error(c, gives, e)
		}
	}
}

// P6.6, P6.13: whatever the warp truly is, the cloth lies in Gives, and both ends are reached.
func TestGivesOfAllTruths(t *testing.T) {
	r := source(9)
	few := func(s api.Span) []int {
		return append([]int{s.Low, s.High}, s.Low+r.IntN(s.High-s.Low+1), s.Low+(s.High-s.Low)/2)
	}
	for _, w := range warps(r, 300) {
		var all []int
		for _, length := range few(w.Length) {
			for _, s := range few(w.Stretch) {
				for _, c := range few(w.Crimp) {
					for _, a := range few(w.Waste) {
						all = append(all, cloth(length, s, c, a))
					}
				}
			}
		}
		if gives, e := beam.Gives(w); e != api.OK || gives != span(slices.Min(all), slices.Max(all)) {
			t.Fatal(w, gives, e, slices.Min(all), slices.Max(all))
		}
	}
}

// P6.7: the example, the edges, and lengths that are not enough.
func TestNeed(t *testing.T) {
	const most = api.MaxBeamLength
	whole := span(0, 0)
	for _, c := range []struct {
		w           api.BeamWarp
		cloth, need int
		e           api.Errno
	}{
		{linen(), 947400, 1000000, api.OK}, {linen(), 947399, 1000000, api.OK}, {linen(), 947398, 999999, api.OK}, {linen(), 947401, 1000002, api.OK},
		{linen(), 0, 0, api.OK}, {linen(), 1, 2108, api.OK},
		{api.BeamWarp{}, 0, 0, api.OK}, {api.BeamWarp{}, 5, 5, api.OK}, {api.BeamWarp{}, most, most, api.OK},
		// The length of the warp plays no part.
		{long(linen(), 0), 947400, 1000000, api.OK}, {long(linen(), most), 947400, 1000000, api.OK},
		{warp(whole, whole, whole, span(0, 1)), most, 0, api.ErrNone}, {warp(whole, whole, whole, span(0, 1)), most - 1, most, api.OK},
		{warp(whole, span(200, 200), whole, whole), most, 8333333334, api.OK}, {warp(whole, span(0, 200), whole, whole), most, most, api.OK},
		{warp(whole, span(200, 200), whole, span(100000000, 100000000)), 0, 0, api.OK}, {warp(whole, whole, whole, span(100000000, 100000000)), 1, 100000001, api.OK},
		{warp(whole, whole, span(0, 300), whole), 7000000000, most, api.OK}, {warp(whole, whole, span(0, 300), whole), 7000000001, 0, api.ErrNone}, {warp(whole, whole, span(0, 300), whole), most, 0, api.ErrNone},
		{warp(whole, whole, span(1, 1), whole), 1, 2, api.OK}, {warp(whole, span(1, 1), whole, whole), 1, 1, api.OK}, {warp(whole, span(1, 1), whole, whole), 1001, 1000, api.OK},
		{linen(), -1, 0, api.ErrRange}, {linen(), most + 1, 0, api.ErrRange}, {linen(), far, 0, api.ErrRange}, {linen(), deep, 0, api.ErrRange},
	} {
		if need, e := beam.Need(c.w, c.cloth); e != c.e || need != c.need {
			t.Error(c, need, e)
		}
	}
}

// P6.7, P6.13: with the length that Need returns there is always enough; with one less there can be too little.
func TestNeedIsTheLeast(t *testing.T) {
	r := source(10)
	enough, none := 0, 0
	for at, w := range warps(r, 1000) {
		cloth := upTo(r, 0, []int{2000, api.MaxBeamLength}[at%2])
		need, e := beam.Need(w, cloth)
		if e == api.ErrNone {
			none++
			if surely(w, api.MaxBeamLength) >= cloth || need != 0 {
				t.Fatal(w, cloth, need, e)
			}
			continue
		}
		enough++
		if e != api.OK || surely(w, need) < cloth || need > 0 && surely(w, need-1) >= cloth {
			t.Fatal(w, cloth, need, e)
		}
		if gives, _ := beam.Gives(long(w, need)); gives.Low < cloth {
			t.Fatal(w, cloth, need, gives)
		}
		if cloth < 300 {
			first := 0
			for surely(w, first) < cloth && first < 4000 {
				first++
			}
			if surely(w, first) >= cloth && first != need {
				t.Fatal(w, cloth, need, first)
			}
		}
	}
	if enough < 300 || none < 50 {
		t.Error("too few samples", enough, none)
	}
}
