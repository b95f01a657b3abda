package tie_test

import (
	"math/rand/v2"
	"slices"
	"testing"

	"griffe/api"
	"griffe/point"
	"griffe/tie"
)

// harness returns a harness, design a design.
func harness(hooks int, warps ...int) api.TieHarness {
	return api.TieHarness{Hooks: hooks, Warps: warps}
}

func design(hooks int, rows ...int) api.Design { return api.Design{Hooks: hooks, Rows: rows} }

// straight and points return groups.
func straight(first, last, times int) api.TieGroup {
	return api.TieGroup{First: first, Last: last, Way: api.TieStraight, Times: times}
}

func points(first, last, times int) api.TieGroup {
	return api.TieGroup{First: first, Last: last, Way: api.TiePoint, Times: times}
}

// example is the point tie of the chapter's examples.
func example() api.TieHarness { return harness(4, 0, 1, 2, 3, 2, 1) }

func same(a, b api.TieHarness) bool { return a.Hooks == b.Hooks && slices.Equal(a.Warps, b.Warps) }

func sameDesign(a, b api.Design) bool { return a.Hooks == b.Hooks && slices.Equal(a.Rows, b.Rows) }

// must returns a result that has no error.
func must[T any](t *testing.T) func(v T, e api.Errno) T {
	return func(v T, e api.Errno) T {
		t.Helper()
		if e != api.OK {
			t.Fatal("error", e)
		}
		return v
	}
}

func source(seed uint64) *rand.Rand { return rand.New(rand.NewPCG(seed, 96)) }

// randomHarness returns a harness with up to so many hooks and warps.
func randomHarness(r *rand.Rand, hooks, warps int) api.TieHarness {
	h := harness(1 + r.IntN(hooks))
	for range 1 + r.IntN(warps) {
		h.Warps = append(h.Warps, r.IntN(h.Hooks))
	}
	return h
}

// randomDesign returns a design with up to so many picks, some of them with all hooks alike.
func randomDesign(r *rand.Rand, hooks, picks int) api.Design {
	d := design(hooks)
	for range 1 + r.IntN(picks) {
		row := r.IntN(1 << hooks)
		switch r.IntN(6) {
		case 0:
			row = 0
		case 1:
			row = 1<<hooks - 1
		}
		d.Rows = append(d.Rows, row)
	}
	return d
}

// samples returns harnesses, small ones more often, some of them by groups.
func samples(many int) []api.TieHarness {
	r := source(3)
	var l []api.TieHarness
	for i := range many {
		if i%5 == 0 {
			l = append(l, randomHarness(r, api.MaxHooks, api.MaxTieWarps))
			continue
		}
		if i%5 < 3 {
			l = append(l, randomHarness(r, 6, 10))
			continue
		}
		hooks := 1 + r.IntN(8)
		var groups []api.TieGroup
		for range 1 + r.IntN(3) {
			way := api.TieWay(1 + r.IntN(2))
			groups = append(groups, api.TieGroup{First: r.IntN(hooks), Last: r.IntN(hooks), Way: way, Times: 1 + r.IntN(2)})
		}
		if h, _, e := tie.Make(hooks, groups); e == api.OK {
			l = append(l, h)
		}
	}
	return l
}

// invalid is harnesses with their errors.
var invalid = []struct {
	h api.TieHarness
	e api.Errno
}{
	{api.TieHarness{}, api.ErrArg},
	{harness(0, 0), api.ErrArg},
	{harness(-1, 0), api.ErrArg},
	{harness(25, 0), api.ErrArg},
	{harness(25), api.ErrArg},
	{harness(-1<<63, make([]int, 97)...), api.ErrArg},
	{harness(1<<63-1, make([]int, 97)...), api.ErrArg},
	{harness(4, make([]int, 97)...), api.ErrLong},
	{harness(4, slices.Repeat([]int{4}, 97)...), api.ErrLong},
	{harness(4), api.ErrNone},
	{api.TieHarness{Hooks: 4, Warps: []int{}}, api.ErrNone},
	{harness(4, 4), api.ErrArg},
	{harness(4, 0, 3, -1), api.ErrArg},
	{harness(24, 24), api.ErrArg},
	{harness(1, 1), api.ErrArg},
	{harness(4, -1<<63), api.ErrArg},
	{harness(4, 0, 1<<63-1), api.ErrArg},
}

// P3.1: harnesses up to their limits, and all that are not valid.
func TestCheck(t *testing.T) {
	for _, h := range []api.TieHarness{example(), harness(1, 0), harness(24, 23, 0), harness(24, 23), harness(1, make([]int, 96)...), harness(4, 3, 3, 3)} {
		if e := tie.Check(h); e != api.OK {
			t.Error(h, e)
		}
	}
	for _, c := range invalid {
		if e := tie.Check(c.h); e != c.e {
			t.Error(c, e)
		}
	}
}

// P3.1: the errors of a harness come first in all functions, before all others.
func TestHarnessErrorsComeFirst(t *testing.T) {
	badDesign, badCloth := design(0), make([]string, 61)
	for _, c := range invalid {
		beside, e := tie.Beside(c.h, harness(0))
		if e != c.e || !same(beside, api.TieHarness{}) {
			t.Error("Beside", c, beside, e)
		}
		beside, e = tie.Beside(example(), c.h)
		if e != c.e || !same(beside, api.TieHarness{}) {
			t.Error("Beside", c, beside, e)
		}
		cloth, e := tie.Weave(c.h, badDesign)
		if e != c.e || len(cloth) != 0 {
			t.Error("Weave", c, cloth, e)
		}
		d, e := tie.Unweave(c.h, badCloth)
		if e != c.e || !sameDesign(d, api.Design{}) {
			t.Error("Unweave", c, d, e)
		}
		pick, warp, other, e := tie.Part(c.h, badCloth)
		if e != c.e || pick != 0 || warp != 0 || other != 0 {
			t.Error("Part", c, pick, warp, other, e)
		}
		floats, e := tie.Floats(c.h, badDesign, -1)
		if e != c.e || len(floats) != 0 {
			t.Error("Floats", c, floats, e)
		}
		longest, row, e := tie.Worst(c.h, 0)
		if e != c.e || longest != 0 || row != 0 {
			t.Error("Worst", c, longest, row, e)
		}
		if n, e := tie.Repeat(c.h); e != c.e || n != 0 {
			t.Error("Repeat", c, n, e)
		}
		if s, e := tie.Mirrors(c.h); e != c.e || s != 0 {
			t.Error("Mirrors", c, s, e)
		}
	}
}

// P3.1: the examples, and each way of a group, up and down.
func TestMake(t *testing.T) {
	for _, c := range []struct {
		hooks  int
		groups []api.TieGroup
		warps  []int
	}{
		{4, []api.TieGroup{points(0, 3, 2)}, []int{0, 1, 2, 3, 2, 1, 0, 1, 2, 3, 2, 1}},
		{4, []api.TieGroup{straight(3, 1, 1)}, []int{3, 2, 1}},
		{4, []api.TieGroup{straight(0, 3, 2)}, []int{0, 1, 2, 3, 0, 1, 2, 3}},
		{4, []api.TieGroup{straight(3, 0, 2)}, []int{3, 2, 1, 0, 3, 2, 1, 0}},
		{4, []api.TieGroup{straight(2, 2, 3)}, []int{2, 2, 2}},
		{4, []api.TieGroup{points(2, 2, 3)}, []int{2, 2, 2}},
		{4, []api.TieGroup{points(1, 2, 2)}, []int{1, 2, 1, 2}},
		{4, []api.TieGroup{points(2, 1, 2)}, []int{2, 1, 2, 1}},
		{4, []api.TieGroup{points(3, 1, 2)}, []int{3, 2, 1, 2, 3, 2, 1, 2}},
		{4, []api.TieGroup{points(1, 3, 1)}, []int{1, 2, 3, 2}},
		{6, []api.TieGroup{straight(0, 1, 2), points(2, 5, 1), straight(1, 0, 2)}, []int{0, 1, 0, 1, 2, 3, 4, 5, 4, 3, 1, 0, 1, 0}},
		{1, []api.TieGroup{points(0, 0, 8)}, make([]int, 8)},
		{24, []api.TieGroup{straight(23, 23, 1)}, []int{23}},
	} {
		h, at, e := tie.Make(c.hooks, c.groups)
		if e != api.OK || at != 0 || !same(h, harness(c.hooks, c.warps...)) {
			t.Error(c, h, at, e)
		}
	}
}

// P3.1: each group of few hooks, walked hook by hook.
func TestMakeByWalking(t *testing.T) {
	const hooks = 7
	for first := range hooks {
		for last := range hooks {
			for times := 1; times <= api.MaxTieTimes; times++ {
				there := []int{first}
				for hook := first; hook != last; {
					if hook < last {
						hook++
					} else {
						hook--
					}
					there = append(there, hook)
				}
				back := slices.Clone(there)
				for i := len(there) - 2; i > 0; i-- {
					back = append(back, there[i])
				}
				h, at, e := tie.Make(hooks, []api.TieGroup{straight(first, last, times)})
				if e != api.OK || at != 0 || !same(h, harness(hooks, slices.Repeat(there, times)...)) {
					t.Fatal(first, last, times, h, at, e)
				}
				h, at, e = tie.Make(hooks, []api.TieGroup{points(first, last, times)})
				if e != api.OK || at != 0 || !same(h, harness(hooks, slices.Repeat(back, times)...)) {
					t.Fatal(first, last, times, h, at, e)
				}
			}
		}
	}
}

// P3.1: groups up to the limits.
func TestMakeLimits(t *testing.T) {
	for _, c := range []struct {
		hooks  int
		groups []api.TieGroup
		warps  int
	}{
		{24, []api.TieGroup{straight(0, 23, 4)}, 96},
		{24, []api.TieGroup{points(23, 0, 2), straight(5, 8, 1)}, 96},
		{12, slices.Repeat([]api.TieGroup{straight(0, 11, 1)}, 8), 96},
		{7, []api.TieGroup{points(0, 6, 8)}, 96},
		{2, slices.Repeat([]api.TieGroup{points(0, 1, 6)}, 8), 96},
	} {
		h, at, e := tie.Make(c.hooks, c.groups)
		if e != api.OK || at != 0 || len(h.Warps) != c.warps {
			t.Error(c, h, at, e)
		}
	}
}

// P3.1: the errors of groups, in their order, with the numbers of the groups.
func TestMakeErrors(t *testing.T) {
	good, full := points(0, 3, 2), points(0, 23, 3)
	way := func(w int) api.TieGroup { return api.TieGroup{First: 0, Last: 3, Way: api.TieWay(w), Times: 1} }
	for _, c := range []struct {
		hooks  int
		groups []api.TieGroup
		at     int
		e      api.Errno
	}{
		{0, []api.TieGroup{good}, 0, api.ErrArg},
		{25, nil, 0, api.ErrArg},
		{-1, make([]api.TieGroup, 9), 0, api.ErrArg},
		{-1 << 63, nil, 0, api.ErrArg},
		{1<<63 - 1, nil, 0, api.ErrArg},
		{4, make([]api.TieGroup, 9), 0, api.ErrLong},
		{4, slices.Repeat([]api.TieGroup{straight(0, 0, 1)}, 9), 0, api.ErrLong},
		{4, nil, 0, api.ErrNone},
		{4, []api.TieGroup{}, 0, api.ErrNone},
		{4, []api.TieGroup{{}}, 0, api.ErrArg},
		{4, []api.TieGroup{good, straight(-1, 3, 1)}, 1, api.ErrArg},
		{4, []api.TieGroup{good, straight(4, 3, 1)}, 1, api.ErrArg},
		{4, []api.TieGroup{good, straight(0, 4, 1)}, 1, api.ErrArg},
		{4, []api.TieGroup{good, straight(0, -1, 1)}, 1, api.ErrArg},
		{4, []api.TieGroup{good, straight(-1<<63, 1<<63-1, 1)}, 1, api.ErrArg},
		{4, []api.TieGroup{good, good, way(0)}, 2, api.ErrArg},
		{4, []api.TieGroup{good, good, way(3)}, 2, api.ErrArg},
		{4, []api.TieGroup{good, way(-1), way(0)}, 1, api.ErrArg},
		{4, []api.TieGroup{points(0, 3, 0)}, 0, api.ErrArg},
		{4, []api.TieGroup{points(0, 3, 9)}, 0, api.ErrArg},
		{4, []api.TieGroup{points(0, 3, -1)}, 0, api.ErrArg},
		{4, []api.TieGroup{points(0, 3, 1<<63-1)}, 0, api.ErrArg},
		{24, []api.TieGroup{full}, 0, api.ErrFull},
		{24, []api.TieGroup{full, {}}, 0, api.ErrFull},
		{24, []api.TieGroup{{}, full}, 0, api.ErrArg},
		{24, []api.TieGroup{straight(0, 23, 4), straight(0, 0, 1)}, 1, api.ErrFull},
		{24, []api.TieGroup{straight(0, 23, 4), straight(0, 24, 1)}, 1, api.ErrArg},
		{24, slices.Repeat([]api.TieGroup{straight(0, 12, 1)}, 8), 7, api.ErrFull},
		{24, []api.TieGroup{points(0, 23, 8)}, 0, api.ErrFull},
	} {
		h, at, e := tie.Make(c.hooks, c.groups)
		if e != c.e || at != c.at || !same(h, api.TieHarness{}) {
			t.Error(c, h, at, e)
		}
	}
}

// P3.1: the warps of one after those of the other, up to the limit, and the errors in their order.
func TestBeside(t *testing.T) {
	many := func(hooks, n int) api.TieHarness { return harness(hooks, make([]int, n)...) }
	none := api.TieHarness{}
	for _, c := range []struct {
		a, b, beside api.TieHarness
		e            api.Errno
	}{
		{harness(4, 3, 0), harness(4, 1, 2, 1), harness(4, 3, 0, 1, 2, 1), api.OK},
		{harness(4, 1, 2, 1), harness(4, 3, 0), harness(4, 1, 2, 1, 3, 0), api.OK},
		{harness(1, 0), harness(1, 0), harness(1, 0, 0), api.OK},
		{many(3, 48), many(3, 48), many(3, 96), api.OK},
		{many(3, 95), many(3, 1), many(3, 96), api.OK},
		{many(3, 96), many(3, 1), none, api.ErrFull},
		{many(3, 49), many(3, 48), none, api.ErrFull},
		{many(3, 96), many(4, 96), none, api.ErrForm},
		{harness(4, 0), harness(3, 0), none, api.ErrForm},
		{harness(4, 4), many(3, 97), none, api.ErrArg},
		{many(3, 97), harness(4, 4), none, api.ErrLong},
		{harness(4), harness(3, 3), none, api.ErrNone},
		{harness(4, 0), harness(3), none, api.ErrNone},
		{many(3, 96), harness(3), none, api.ErrNone},
	} {
		if beside, e := tie.Beside(c.a, c.b); e != c.e || !same(beside, c.beside) {
			t.Error(c, beside, e)
		}
	}
}

// P3.12: a straight tie over all hooks weaves the design, so many times side by side.
func TestStraightTie(t *testing.T) {
	r := source(5)
	for hooks := 1; hooks <= api.MaxHooks; hooks++ {
		for times := 1; times <= api.MaxTieTimes && times*hooks <= api.MaxTieWarps; times++ {
			h, _, e := tie.Make(hooks, []api.TieGroup{straight(0, hooks-1, times)})
			if e != api.OK {
				t.Fatal(hooks, times, e)
			}
			d := randomDesign(r, hooks, 5)
			cloth := must[[]string](t)(tie.Weave(h, d))
			for pick, warps := range cloth {
				for warp := range warps {
					if len(warps) != hooks*times || (warps[warp] == 'x') != (d.Rows[pick]>>(warp%hooks)&1 == 1) {
						t.Fatal(d, times, cloth)
					}
				}
			}
		}
	}
}

// P3.12: a point tie over all hooks weaves what Reflect returns.
func TestPointTie(t *testing.T) {
	r := source(6)
	for hooks := 1; hooks <= 13; hooks++ {
		h, _, e := tie.Make(hooks, []api.TieGroup{points(0, hooks-1, 1)})
		if e != api.OK {
			t.Fatal(hooks, e)
		}
		for range 20 {
			d := randomDesign(r, hooks, 5)
			reflected := must[api.Design](t)(point.Reflect(d))
			cloth := must[[]string](t)(tie.Weave(h, d))
			if !slices.Equal(cloth, texts(reflected)) {
				t.Fatal(d, cloth, reflected)
			}
		}
	}
}

// texts returns a design as the cloth of a warp for each hook.
func texts(d api.Design) []string {
	var cloth []string
	for _, row := range d.Rows {
		warps := ""
		for hook := range d.Hooks {
			warps += string(".x"[row>>hook&1])
		}
		cloth = append(cloth, warps)
	}
	return cloth
}
