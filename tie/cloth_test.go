package tie_test

import (
	"slices"
	"strings"
	"testing"

	"griffe/api"
	"griffe/point"
	"griffe/tie"
)

func float(pick, warp, length int, lifted bool) api.PointFloat {
	return api.PointFloat{Pick: pick, Hook: warp, Length: length, Lifted: lifted}
}

// naive returns the floats of a cloth that are longer than a bound: from each warp on, those that are alike, if the one before is not.
func naive(cloth []string, bound int) []api.PointFloat {
	var l []api.PointFloat
	for pick, warps := range cloth {
		n := len(warps)
		if strings.Trim(warps, warps[:1]) == "" {
			if api.PointEndless > bound {
				l = append(l, float(pick, 0, api.PointEndless, warps[0] == 'x'))
			}
			continue
		}
		for warp := range n {
			length := 0
			for warps[(warp+length)%n] == warps[warp] {
				length++
			}
			if warps[(warp+n-1)%n] != warps[warp] && length > bound {
				l = append(l, float(pick, warp, length, warps[warp] == 'x'))
			}
		}
	}
	return l
}

// P3.2: the examples, and hooks without warps.
func TestWeave(t *testing.T) {
	for _, c := range []struct {
		h     api.TieHarness
		d     api.Design
		cloth []string
	}{
		{example(), design(4, 1, 6), []string{"x.....", ".xx.xx"}},
		{example(), design(4, 7, 0, 15), []string{"xxx.xx", "......", "xxxxxx"}},
		{harness(1, 0), design(1, 1, 0), []string{"x", "."}},
		{harness(3, 2, 2, 0), design(3, 4, 2, 5, 1), []string{"xx.", "...", "xxx", "..x"}},
		{harness(24, 23, 0), design(24, 1<<23), []string{"x."}},
		{harness(24, slices.Repeat([]int{23}, 96)...), design(24, 1<<23), []string{strings.Repeat("x", 96)}},
	} {
		if cloth, e := tie.Weave(c.h, c.d); e != api.OK || !slices.Equal(cloth, c.cloth) {
			t.Error(c, cloth, e)
		}
	}
	if cloth, e := tie.Weave(example(), design(4, make([]int, 60)...)); e != api.OK || len(cloth) != 60 {
		t.Error(cloth, e)
	}
}

// P3.2, P3.5: the errors of the design, of its hooks, and of the bound, in their order.
func TestWeaveErrors(t *testing.T) {
	for _, c := range []struct {
		d api.Design
		e api.Errno
	}{
		{design(0), api.ErrArg},
		{design(25, 0), api.ErrArg},
		{design(3, make([]int, 61)...), api.ErrLong},
		{design(3), api.ErrNone},
		{design(4, 16), api.ErrArg},
		{design(3, 0, -1), api.ErrArg},
		{design(3, 1), api.ErrForm},
		{design(5, 1), api.ErrForm},
		{design(24, 1), api.ErrForm},
	} {
		if cloth, e := tie.Weave(example(), c.d); e != c.e || len(cloth) != 0 {
			t.Error(c, cloth, e)
		}
		for _, bound := range []int{-1, 2, 1001} {
			if l, e := tie.Floats(example(), c.d, bound); e != c.e || len(l) != 0 {
				t.Error(c, bound, l, e)
			}
		}
	}
	for _, bound := range []int{-1, -1 << 63, 1001, 1<<63 - 1} {
		if l, e := tie.Floats(example(), design(4, 1), bound); e != api.ErrRange || len(l) != 0 {
			t.Error(bound, l, e)
		}
	}
}

// P3.8: each point of a cloth is that of the design at the hook of its warp, and Unweave gives the design again, without hooks that have no warp.
func TestThreadByThread(t *testing.T) {
	r := source(8)
	for _, h := range samples(300) {
		d := randomDesign(r, h.Hooks, 6)
		cloth := must[[]string](t)(tie.Weave(h, d))
		if len(cloth) != len(d.Rows) {
			t.Fatal(h, d, cloth)
		}
		tied := 0
		for _, hook := range h.Warps {
			tied |= 1 << hook
		}
		want := design(h.Hooks)
		for pick, warps := range cloth {
			if len(warps) != len(h.Warps) {
				t.Fatal(h, d, cloth)
			}
			for warp, hook := range h.Warps {
				if warps[warp] != ".x"[d.Rows[pick]>>hook&1] {
					t.Fatal(h, d, cloth, pick, warp)
				}
			}
			want.Rows = append(want.Rows, d.Rows[pick]&tied)
		}
		if again := must[api.Design](t)(tie.Unweave(h, cloth)); !sameDesign(again, want) {
			t.Fatal(h, d, again)
		}
		if pick, warp, other, e := tie.Part(h, cloth); e != api.ErrNone || pick != 0 || warp != 0 || other != 0 {
			t.Fatal(h, d, pick, warp, other, e)
		}
	}
}

// P3.3: the examples, and what no design weaves.
func TestUnweaveAndPart(t *testing.T) {
	for _, c := range []struct {
		h                 api.TieHarness
		cloth             []string
		d                 api.Design
		pick, warp, other int
		e, f              api.Errno
	}{
		{example(), []string{"x.....", ".xx.xx"}, design(4, 1, 6), 0, 0, 0, api.OK, api.ErrNone},
		{example(), []string{"x....x"}, api.Design{}, 0, 5, 1, api.ErrState, api.OK},
		{example(), []string{"xxxxxx", "......", "..x..."}, api.Design{}, 2, 4, 2, api.ErrState, api.OK},
		{example(), []string{"xxx...", ".x...."}, api.Design{}, 0, 4, 2, api.ErrState, api.OK},
		{example(), []string{".xx.xx", ".x...."}, api.Design{}, 1, 5, 1, api.ErrState, api.OK},
		{harness(2, 1, 0, 1, 0, 1), []string{"x.x.x", "....x"}, api.Design{}, 1, 4, 0, api.ErrState, api.OK},
		{harness(2, 1, 0, 1, 0, 1), []string{"..x.."}, api.Design{}, 0, 2, 0, api.ErrState, api.OK},
		{harness(2, 1, 0, 1, 0, 1), []string{".x..x"}, api.Design{}, 0, 3, 1, api.ErrState, api.OK},
		{harness(5, 4, 4), []string{"xx", ".."}, design(5, 16, 0), 0, 0, 0, api.OK, api.ErrNone},
		{harness(1, 0), []string{"x", ".", "x"}, design(1, 1, 0, 1), 0, 0, 0, api.OK, api.ErrNone},
	} {
		d, e := tie.Unweave(c.h, c.cloth)
		pick, warp, other, f := tie.Part(c.h, c.cloth)
		if e != c.e || f != c.f || !sameDesign(d, c.d) || pick != c.pick || warp != c.warp || other != c.other {
			t.Error(c, d, e, pick, warp, other, f)
		}
	}
}

// badCloths is cloths for six warps, with their errors.
var badCloths = []struct {
	cloth []string
	e     api.Errno
}{
	{nil, api.ErrNone},
	{[]string{}, api.ErrNone},
	{make([]string, 61), api.ErrLong},
	{slices.Repeat([]string{"......"}, 61), api.ErrLong},
	{[]string{""}, api.ErrForm},
	{[]string{"x....x", ""}, api.ErrForm},
	{[]string{"x....x", "....."}, api.ErrForm},
	{[]string{"x....x", "......."}, api.ErrForm},
	{[]string{"x....x", "...o.."}, api.ErrForm},
	{[]string{"X....."}, api.ErrForm},
	{[]string{"x.... "}, api.ErrForm},
	{[]string{"x....\n"}, api.ErrForm},
	{[]string{"x....\x00"}, api.ErrForm},
	{[]string{"x...\u00d7"}, api.ErrForm},
	{[]string{"\xff....."}, api.ErrForm},
	{[]string{"......", "......\n"}, api.ErrForm},
}

// P3.3, P3.4: the errors of a cloth, in their order.
func TestClothErrors(t *testing.T) {
	for _, c := range badCloths {
		if d, e := tie.Unweave(example(), c.cloth); e != c.e || !sameDesign(d, api.Design{}) {
			t.Error("Unweave", c, d, e)
		}
		if pick, warp, other, e := tie.Part(example(), c.cloth); e != c.e || pick != 0 || warp != 0 || other != 0 {
			t.Error("Part", c, pick, warp, other, e)
		}
		if h, d, e := tie.Fewest(c.cloth); e != c.e || !same(h, api.TieHarness{}) || !sameDesign(d, api.Design{}) {
			t.Error("Fewest", c, h, d, e)
		}
		if l, e := tie.Apart(c.cloth); e != c.e || len(l) != 0 {
			t.Error("Apart", c, l, e)
		}
	}
	for _, cloth := range [][]string{{"....."}, {"......."}} {
		if d, e := tie.Unweave(example(), cloth); e != api.ErrForm || !sameDesign(d, api.Design{}) {
			t.Error(cloth, d, e)
		}
		if _, _, _, e := tie.Part(example(), cloth); e != api.ErrForm {
			t.Error(cloth, e)
		}
	}
	if d, e := tie.Unweave(example(), slices.Repeat([]string{"......"}, 60)); e != api.OK || len(d.Rows) != 60 {
		t.Error(d, e)
	}
}

// P3.3, P3.9: cloths with a few points changed: the first pick and warp, found by trying all two warps of one hook.
func TestPartByTrying(t *testing.T) {
	r := source(9)
	for _, h := range samples(400) {
		cloth := must[[]string](t)(tie.Weave(h, randomDesign(r, h.Hooks, 4)))
		for range 1 + r.IntN(2) {
			pick, warp := r.IntN(len(cloth)), r.IntN(len(h.Warps))
			warps := []byte(cloth[pick])
			warps[warp] ^= '.' ^ 'x'
			cloth[pick] = string(warps)
		}
		var want []int
		for pick, warps := range cloth {
			for warp, hook := range h.Warps {
				if other := slices.Index(h.Warps, hook); want == nil && warps[warp] != warps[other] {
					want = []int{pick, warp, other}
				}
			}
		}
		pick, warp, other, e := tie.Part(h, cloth)
		d, f := tie.Unweave(h, cloth)
		if want == nil {
			if e != api.ErrNone || f != api.OK || !slices.Equal(must[[]string](t)(tie.Weave(h, d)), cloth) {
				t.Fatal(h, cloth, pick, warp, other, e, d, f)
			}
			continue
		}
		if e != api.OK || f != api.ErrState || !slices.Equal([]int{pick, warp, other}, want) || !sameDesign(d, api.Design{}) {
			t.Fatal(h, cloth, pick, warp, other, e, d, f)
		}
		if h.Warps[warp] != h.Warps[other] || cloth[pick][warp] == cloth[pick][other] {
			t.Fatal(h, cloth, pick, warp, other)
		}
	}
}

// columns returns a cloth of so many warps in which each is the number of its column, in binary digits from pick to pick.
func columns(picks int, numbers ...int) []string {
	var cloth []string
	for pick := range picks {
		warps := ""
		for _, n := range numbers {
			warps += string(".x"[n>>pick&1])
		}
		cloth = append(cloth, warps)
	}
	return cloth
}

// P3.4: the example, and cloths up to the limits.
func TestFewest(t *testing.T) {
	var all []int
	for n := range 96 {
		all = append(all, n%24)
	}
	for _, c := range []struct {
		cloth []string
		h     api.TieHarness
		d     api.Design
		apart []int
	}{
		{[]string{"x..x", "xx.x"}, harness(3, 0, 1, 2, 0), design(3, 1, 3), []int{0, 1, 2}},
		{[]string{"."}, harness(1, 0), design(1, 0), []int{0}},
		{[]string{"x"}, harness(1, 0), design(1, 1), []int{0}},
		{[]string{"xxxx", "...."}, harness(1, 0, 0, 0, 0), design(1, 1, 0), []int{0}},
		{[]string{"..xx.x"}, harness(2, 0, 0, 1, 1, 0, 1), design(2, 2), []int{0, 2}},
		{[]string{strings.Repeat("x", 96)}, harness(1, make([]int, 96)...), design(1, 1), []int{0}},
		{columns(5, all...), harness(24, all...), design(24, 0xaaaaaa, 0xcccccc, 0xf0f0f0, 0x00ff00, 0xff0000), all[:24]},
		{columns(60, 1<<59, 0, 1<<59), harness(2, 0, 1, 0), design(2, append(make([]int, 59), 1)...), []int{0, 1}},
	} {
		h, d, e := tie.Fewest(c.cloth)
		apart, f := tie.Apart(c.cloth)
		if e != api.OK || f != api.OK || !same(h, c.h) || !sameDesign(d, c.d) || !slices.Equal(apart, c.apart) {
			t.Error(c, h, d, e, apart, f)
		}
	}
}

// P3.4: cloths that are too wide, too narrow, or need too many hooks.
func TestFewestErrors(t *testing.T) {
	var all []int
	for n := range 25 {
		all = append(all, n)
	}
	for _, c := range []struct {
		cloth []string
		e     api.Errno
	}{
		{[]string{strings.Repeat(".", 97)}, api.ErrForm},
		{[]string{"", ""}, api.ErrForm},
		{columns(5, append(slices.Repeat([]int{0}, 72), all...)...), api.ErrForm},
		{columns(5, all...), api.ErrFull},
		{columns(5, append(slices.Repeat([]int{0}, 71), all...)...), api.ErrFull},
		{slices.Concat(slices.Repeat(columns(5, all...), 12), []string{"."}), api.ErrLong},
		{slices.Concat(columns(5, all...), []string{strings.Repeat("o", 25)}), api.ErrForm},
	} {
		h, d, e := tie.Fewest(c.cloth)
		apart, f := tie.Apart(c.cloth)
		if e != c.e || f != c.e || !same(h, api.TieHarness{}) || !sameDesign(d, api.Design{}) || len(apart) != 0 {
			t.Error(c, h, d, e, apart, f)
		}
	}
}

// P3.9: harness and design of Fewest weave the cloth, each two warps of Apart differ, and they are as many as there are hooks.
func TestFewestIsFewest(t *testing.T) {
	r := source(10)
	for _, from := range samples(400) {
		cloth := must[[]string](t)(tie.Weave(from, randomDesign(r, from.Hooks, 6)))
		h, d, e := tie.Fewest(cloth)
		apart, f := tie.Apart(cloth)
		if e != api.OK || f != api.OK || len(apart) != h.Hooks || h.Hooks > from.Hooks {
			t.Fatal(from, cloth, h, d, e, apart, f)
		}
		if again := must[[]string](t)(tie.Weave(h, d)); !slices.Equal(again, cloth) {
			t.Fatal(cloth, h, d, again)
		}
		for hook, warp := range apart {
			if slices.Index(h.Warps, hook) != warp || hook > 0 && apart[hook-1] >= warp {
				t.Fatal(cloth, h, apart)
			}
			for _, other := range apart[:hook] {
				if !slices.ContainsFunc(cloth, func(warps string) bool { return warps[warp] != warps[other] }) {
					t.Fatal(cloth, apart, warp, other)
				}
			}
		}
	}
}

// P3.5: the examples, floats round the edge, and endless ones.
func TestFloats(t *testing.T) {
	for _, c := range []struct {
		h     api.TieHarness
		d     api.Design
		bound int
		l     []api.PointFloat
	}{
		{example(), design(4, 6), 2, nil},
		{example(), design(4, 7), 2, []api.PointFloat{float(0, 4, 5, true)}},
		{example(), design(4, 1, 6), 0, []api.PointFloat{
			float(0, 0, 1, true), float(0, 1, 5, false), float(1, 0, 1, false), float(1, 1, 2, true), float(1, 3, 1, false), float(1, 4, 2, true)}},
		{example(), design(4, 1, 6), 1, []api.PointFloat{float(0, 1, 5, false), float(1, 1, 2, true), float(1, 4, 2, true)}},
		{example(), design(4, 0, 15), 999, []api.PointFloat{float(0, 0, 1000, false), float(1, 0, 1000, true)}},
		{example(), design(4, 0, 15), 1000, nil},
		{example(), design(4, 8, 0), 4, []api.PointFloat{float(0, 4, 5, false), float(1, 0, 1000, false)}},
		{harness(1, 0), design(1, 1), 0, []api.PointFloat{float(0, 0, 1000, true)}},
		{harness(3, 1, 1), design(3, 5), 96, []api.PointFloat{float(0, 0, 1000, false)}},
		{harness(2, 0, 1), design(2, 1), 0, []api.PointFloat{float(0, 0, 1, true), float(0, 1, 1, false)}},
		{harness(2, append(make([]int, 95), 1)...), design(2, 2), 94, []api.PointFloat{float(0, 0, 95, false)}},
		{harness(2, append(make([]int, 95), 1)...), design(2, 2), 95, nil},
	} {
		if l, e := tie.Floats(c.h, c.d, c.bound); e != api.OK || !slices.Equal(l, c.l) {
			t.Error(c, l, e)
		}
	}
}

// P3.5: the floats of many cloths, found warp by warp, and those of point for cloths that are no wider than a design.
func TestFloatsByDefinition(t *testing.T) {
	r := source(11)
	for _, h := range samples(300) {
		d := randomDesign(r, h.Hooks, 4)
		cloth := must[[]string](t)(tie.Weave(h, d))
		for _, bound := range []int{0, 1, 2, 3, 5, 10, 50, 95, 96, 999, 1000} {
			if l := must[[]api.PointFloat](t)(tie.Floats(h, d, bound)); !slices.Equal(l, naive(cloth, bound)) {
				t.Fatal(h, d, bound, l)
			}
			straightOne := harness(h.Hooks)
			for hook := range h.Hooks {
				straightOne.Warps = append(straightOne.Warps, hook)
			}
			want := must[[]api.PointFloat](t)(point.Floats(d, api.PointWeft, bound))
			if l := must[[]api.PointFloat](t)(tie.Floats(straightOne, d, bound)); !slices.Equal(l, want) {
				t.Fatal(d, bound, l, want)
			}
		}
	}
}
