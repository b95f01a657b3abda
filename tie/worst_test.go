package tie_test

import (
	"slices"
	"testing"

	"griffe/api"
	"griffe/point"
	"griffe/tie"
)

// boundRows returns all rows of so many hooks that are bound.
func boundRows(hooks, bound int) []int {
	var l []int
	for row := range 1 << hooks {
		if len(naive(texts(design(hooks, row)), bound)) == 0 {
			l = append(l, row)
		}
	}
	return l
}

// longestFloat returns the length of the longest float of the cloth of a row.
func longestFloat(t *testing.T, h api.TieHarness, row int) int {
	t.Helper()
	longest := 0
	for _, f := range naive(must[[]string](t)(tie.Weave(h, design(h.Hooks, row))), 0) {
		longest = max(longest, f.Length)
	}
	return longest
}

// P3.6: the examples and the edges.
func TestWorst(t *testing.T) {
	every := make([]int, 24)
	for hook := range every {
		every[hook] = hook
	}
	for _, c := range []struct {
		h              api.TieHarness
		bound, longest int
	}{
		{example(), 1, 1},
		{example(), 2, 3},
		{example(), 3, 5},
		{example(), 24, 5},
		{harness(2, 0), 1, api.PointEndless},
		{harness(2, 0, 1), 1, 1},
		{harness(2, 0, 0, 1), 24, 2},
		{harness(4, 0, 2, 2), 1, api.PointEndless},
		{harness(4, 0, 2, 1, 2), 1, 3},
		{harness(4, 0, 1), 1, 1},
		{harness(4, 0, 1), 2, api.PointEndless},
		{harness(3, 2, 2, 2), 2, api.PointEndless},
		{harness(24, every...), 1, 1},
		{harness(24, every...), 5, 5},
		{harness(24, every...), 23, 23},
		{harness(24, every...), 24, 23},
		{harness(24, slices.Repeat(every, 4)...), 23, 23},
		{harness(24, append(slices.Repeat(every[:23], 4), 0, 1, 2, 3)...), 23, api.PointEndless},
		{harness(24, append(slices.Repeat(every[:23], 4), 0, 1, 2, 3)...), 22, 26},
		{harness(24, append(slices.Repeat([]int{0, 2, 4}, 31), 1, 3, 5)...), 1, 93},
	} {
		longest, row, e := tie.Worst(c.h, c.bound)
		if e != api.OK || longest != c.longest {
			t.Error(c, longest, row, e)
			continue
		}
		if l := must[[]api.PointFloat](t)(point.Floats(design(c.h.Hooks, row), api.PointWeft, c.bound)); len(l) != 0 {
			t.Error(c, row, "is not bound:", l)
		}
		if n := longestFloat(t, c.h, row); n != c.longest {
			t.Error(c, row, "has", n)
		}
	}
}

// P3.6: the errors, in their order.
func TestWorstErrors(t *testing.T) {
	for _, c := range []struct {
		h     api.TieHarness
		bound int
		e     api.Errno
	}{
		{example(), 0, api.ErrRange},
		{example(), -1, api.ErrRange},
		{example(), 25, api.ErrRange},
		{example(), 1000, api.ErrRange},
		{example(), -1 << 63, api.ErrRange},
		{example(), 1<<63 - 1, api.ErrRange},
		{harness(1, 0), 0, api.ErrRange},
		{harness(1, 0), 25, api.ErrRange},
		{harness(1, 0), 1, api.ErrState},
		{harness(1, 0, 0, 0), 24, api.ErrState},
		{harness(3, 1), 1, api.ErrState},
		{harness(23, 0, 22), 1, api.ErrState},
	} {
		if longest, row, e := tie.Worst(c.h, c.bound); e != c.e || longest != 0 || row != 0 {
			t.Error(c, longest, row, e)
		}
	}
}

// P3.6, P3.10: harnesses of few hooks: no bound row has a longer float, and the row that is returned is bound and has it.
func TestWorstByTryingAllRows(t *testing.T) {
	rows := map[[2]int][]int{}
	for hooks := 1; hooks <= 8; hooks++ {
		for bound := 1; bound <= hooks+1; bound++ {
			rows[[2]int{hooks, bound}] = boundRows(hooks, bound)
		}
	}
	for _, h := range samples(250) {
		if h.Hooks > 8 {
			continue
		}
		for bound := 1; bound <= h.Hooks+1; bound++ {
			bounds := rows[[2]int{h.Hooks, bound}]
			want := 0
			for _, row := range bounds {
				want = max(want, longestFloat(t, h, row))
			}
			longest, row, e := tie.Worst(h, bound)
			if want == 0 {
				if e != api.ErrState || longest != 0 || row != 0 {
					t.Fatal(h, bound, longest, row, e)
				}
				continue
			}
			if e != api.OK || longest != want || !slices.Contains(bounds, row) || longestFloat(t, h, row) != want {
				t.Fatal(h, bound, longest, row, e, "is not", want)
			}
		}
	}
}

// P3.10: no float of a cloth is longer than Worst says, if no float of its design is longer than the bound.
func TestNoFloatIsWorse(t *testing.T) {
	r := source(12)
	for _, h := range samples(150) {
		if h.Hooks == 1 {
			continue
		}
		for _, bound := range []int{2, 3, 5, 24} {
			longest, row, e := tie.Worst(h, bound)
			if e != api.OK {
				t.Fatal(h, bound, e)
			}
			worst := design(h.Hooks, row)
			if l := must[[]api.PointFloat](t)(point.Floats(worst, api.PointWeft, bound)); len(l) != 0 {
				t.Fatal(h, bound, row, l)
			}
			if n := longestFloat(t, h, row); n != longest {
				t.Fatal(h, bound, row, longest, n)
			}
			d := randomDesign(r, h.Hooks, 6)
			d, _, e = point.Bind(d, make([]int, len(d.Rows)), bound)
			if e != api.OK {
				t.Fatal(d, bound, e)
			}
			if l := must[[]api.PointFloat](t)(tie.Floats(h, d, longest)); len(l) != 0 {
				t.Fatal(h, bound, longest, d, l)
			}
		}
	}
}

// P3.7: the example, and harnesses that repeat or are their own mirrors at other warps, or not at all.
func TestRepeatAndMirrors(t *testing.T) {
	for _, c := range []struct {
		h         api.TieHarness
		repeat, s int
		e         api.Errno
	}{
		{harness(4, 0, 1, 2, 3, 2, 1, 0, 1, 2, 3, 2, 1), 6, 0, api.OK},
		{example(), 6, 0, api.OK},
		{harness(4, 1, 0, 1, 2, 3, 2), 6, 2, api.OK},
		{harness(4, 0, 0, 1, 1), 4, 1, api.OK},
		{harness(4, 0, 1, 1, 0), 4, 3, api.OK},
		{harness(4, 0, 1, 2), 3, 0, api.ErrNone},
		{harness(4, 0, 1, 1), 3, 0, api.OK},
		{harness(4, 1, 1, 0), 3, 1, api.OK},
		{harness(4, 1, 0, 1), 3, 2, api.OK},
		{harness(4, 0, 1, 0, 1, 0, 1), 2, 0, api.OK},
		{harness(4, 0, 1, 2, 0, 1, 2), 3, 0, api.ErrNone},
		{harness(4, 0, 1, 0, 1, 0), 5, 4, api.OK},
		{harness(4, 3), 1, 0, api.OK},
		{harness(4, 3, 3, 3, 3), 1, 0, api.OK},
		{harness(4, 0, 1), 2, 0, api.OK},
		{harness(4, 0, 1, 2, 3), 4, 0, api.ErrNone},
		{harness(4, slices.Repeat([]int{0, 1, 2, 3}, 24)...), 4, 0, api.ErrNone},
		{harness(2, append(make([]int, 95), 1)...), 96, 94, api.OK},
		{harness(2, append([]int{1}, make([]int, 95)...)...), 96, 0, api.OK},
		{harness(2, slices.Repeat(append(make([]int, 47), 1), 2)...), 48, 46, api.OK},
	} {
		repeat, e := tie.Repeat(c.h)
		s, f := tie.Mirrors(c.h)
		if e != api.OK || f != c.e || repeat != c.repeat || s != c.s {
			t.Error(c, repeat, e, s, f)
		}
	}
}

// P3.7: each harness of few hooks and warps.
func TestRepeatAndMirrorsByTrying(t *testing.T) {
	const hooks = 3
	at := func(warps []int, warp int) int { n := len(warps); return warps[(warp%n+n)%n] }
	for n := 1; n <= 6; n++ {
		for code := range 729 {
			h := harness(hooks)
			for rest := code; len(h.Warps) < n; rest /= hooks {
				h.Warps = append(h.Warps, rest%hooks)
			}
			repeat, mirror := 0, -1
			for part := n; part > 0; part-- {
				if n%part == 0 && slices.Equal(h.Warps, slices.Repeat(h.Warps[:part], n/part)) {
					repeat = part
				}
			}
			for s := n - 1; s >= 0; s-- {
				mirrored := make([]int, n)
				for warp := range mirrored {
					mirrored[warp] = at(h.Warps, s-warp)
				}
				if slices.Equal(mirrored, h.Warps) {
					mirror = s
				}
			}
			if r := must[int](t)(tie.Repeat(h)); r != repeat {
				t.Fatal(h, r, repeat)
			}
			s, e := tie.Mirrors(h)
			if mirror < 0 && (e != api.ErrNone || s != 0) || mirror >= 0 && (e != api.OK || s != mirror) {
				t.Fatal(h, s, e, mirror)
			}
		}
	}
}

// P3.11: what is beside itself has the same Repeat, the same Worst, and cloths whose longest floats are the same.
func TestBesideItself(t *testing.T) {
	r := source(13)
	for _, h := range samples(150) {
		if 2*len(h.Warps) > api.MaxTieWarps {
			continue
		}
		twice := must[api.TieHarness](t)(tie.Beside(h, h))
		if a, b := must[int](t)(tie.Repeat(h)), must[int](t)(tie.Repeat(twice)); a != b {
			t.Fatal(h, a, b)
		}
		for _, bound := range []int{1, 2, 3, 24} {
			a, _, e := tie.Worst(h, bound)
			b, _, f := tie.Worst(twice, bound)
			if a != b || e != f {
				t.Fatal(h, bound, a, b, e, f)
			}
		}
		for range 4 {
			row := r.IntN(1 << h.Hooks)
			if a, b := longestFloat(t, h, row), longestFloat(t, twice, row); a != b {
				t.Fatal(h, row, a, b)
			}
		}
	}
}

// P3.11: a harness that is its own mirror weaves cloths that are theirs; one of one point group is its own mirror at 0.
func TestMirroredCloths(t *testing.T) {
	r := source(14)
	for _, h := range samples(300) {
		s, e := tie.Mirrors(h)
		if e != api.OK {
			continue
		}
		n := len(h.Warps)
		for _, warps := range must[[]string](t)(tie.Weave(h, randomDesign(r, h.Hooks, 4))) {
			for warp := range n {
				if warps[warp] != warps[(s-warp+n)%n] {
					t.Fatal(h, s, warps, warp)
				}
			}
		}
	}
	for first := range 9 {
		for last := range 9 {
			for times := 1; times <= 6; times++ {
				h, _, e := tie.Make(9, []api.TieGroup{points(first, last, times)})
				s, f := tie.Mirrors(h)
				if e != api.OK || f != api.OK || s != 0 {
					t.Fatal(first, last, times, s, e, f)
				}
			}
		}
	}
}
