package chain_test

import (
	"slices"
	"testing"

	"griffe/api"
	"griffe/chain"
)

// course is a course with its faults, and where the cylinder is after it.
type course struct {
	first       int
	steps       []int
	faults, end int
}

// courses returns all courses that weave a cloth, from the smallest first one on, of these from the smallest list of steps on, by trying all of them.
func courses(b api.ChainBelt, cloth []int) []course {
	var l []course
	var further func(c course)
	further = func(c course) {
		pick := len(c.steps)
		if pick == len(cloth) {
			l = append(l, c)
			return
		}
		if cloth[pick] != api.ChainUnseen && cloth[pick] != row(b, c.end) {
			return
		}
		for step := range 3 {
			next := course{c.first, append(slices.Clone(c.steps), step), c.faults, (c.end + step) % len(b.Cards)}
			if step != 1 {
				next.faults++
			}
			further(next)
		}
	}
	for first := range b.Cards {
		further(course{first: first, end: first})
	}
	return l
}

// cloths returns small chains, with cloths most of which some course has woven.
func cloths(many int) []struct {
	b     api.ChainBelt
	cloth []int
} {
	r := source(8)
	var l []struct {
		b     api.ChainBelt
		cloth []int
	}
	for _, b := range samples(many) {
		if len(b.Cards) > 6 {
			continue
		}
		at := r.IntN(len(b.Cards))
		var cloth []int
		for range r.IntN(6) {
			pick := row(b, at)
			switch r.IntN(8) {
			case 0:
				pick = r.IntN(1 << b.Hooks)
			case 1, 2:
				pick = api.ChainUnseen
			}
			cloth = append(cloth, pick)
			at = (at + r.IntN(3)) % len(b.Cards)
		}
		l = append(l, struct {
			b     api.ChainBelt
			cloth []int
		}{b, cloth})
	}
	return l
}

// P2.6, P2.7, P2.8: the example, and edges.
func TestCourse(t *testing.T) {
	unseen := api.ChainUnseen
	for _, c := range []struct {
		b      api.ChainBelt
		cloth  []int
		first  int
		steps  []int
		faults int
	}{
		{example(), []int{8, 2, 2, unseen, 1}, 1, []int{1, 0, 1, 2, 1}, 2},
		{example(), nil, 0, nil, 0},
		{example(), []int{unseen}, 0, []int{1}, 0},
		{example(), []int{4}, 3, []int{1}, 0},
		{example(), []int{15, 1, 8}, 4, []int{1, 1, 1}, 0},
		{example(), []int{1, 2}, 0, []int{2, 1}, 1},
		{example(), []int{1, 1, 2}, 0, []int{0, 2, 1}, 2},
		{example(), []int{1, unseen, 4}, 0, []int{1, 2, 1}, 1},
		{belt(4, card(0, 5)), []int{5, 5, unseen}, 0, []int{1, 1, 1}, 0},
		{belt(4, card(0, 5), card(1, 6)), []int{5, 5}, 0, []int{0, 1}, 1},
		{belt(4, card(0, 1), card(1, 2), endForEnd(card(2, 1))), []int{8, 1}, 2, []int{1, 1}, 0},
		{belt(4, card(0, 1), card(0, 2), card(0, 1), card(0, 2), card(0, 3)), []int{1, 2, 3}, 2, []int{1, 1, 1}, 0},
	} {
		first, steps, faults, e := chain.Course(c.b, c.cloth)
		if e != api.OK || first != c.first || !slices.Equal(steps, c.steps) || faults != c.faults {
			t.Error(c, first, steps, faults, e)
		}
	}
	cloth := []int{8, 2, 2, unseen, 1}
	for faults, want := range []int{0, 0, 2} {
		if n, e := chain.Ways(example(), cloth, faults); e != api.OK || n != want {
			t.Error(faults, n, e)
		}
		l, e := chain.Where(example(), cloth, faults)
		if e != api.OK || faults < 2 && len(l) != 0 || faults == 2 && !slices.Equal(l, []int{1}) {
			t.Error(faults, l, e)
		}
	}
}

// P2.6: the course with the fewest faults, the smallest first and the smallest steps of all that weave a cloth.
func TestCourseByTryingAll(t *testing.T) {
	for _, c := range cloths(1200) {
		all := courses(c.b, c.cloth)
		first, steps, faults, e := chain.Course(c.b, c.cloth)
		if len(all) == 0 {
			if e != api.ErrNone || first != 0 || len(steps) != 0 || faults != 0 {
				t.Fatal(c, first, steps, faults, e)
			}
			continue
		}
		best := all[0]
		for _, other := range all {
			if other.faults < best.faults {
				best = other
			}
		}
		if e != api.OK || first != best.first || !slices.Equal(steps, best.steps) || faults != best.faults {
			t.Fatal(c, first, steps, faults, e, best)
		}
	}
}

// P2.7, P2.8: how many courses weave a cloth, and where they end.
func TestWaysByTryingAll(t *testing.T) {
	for _, c := range cloths(1200) {
		all := courses(c.b, c.cloth)
		for faults := range api.MaxChainFaults + 1 {
			many := 0
			ends := map[int]bool{}
			for _, one := range all {
				if one.faults <= faults {
					many++
					ends[one.end] = true
				}
			}
			var want []int
			for at := range c.b.Cards {
				if ends[at] {
					want = append(want, at)
				}
			}
			if n, e := chain.Ways(c.b, c.cloth, faults); e != api.OK || n != many {
				t.Fatal(c, faults, n, e, many)
			}
			if l, e := chain.Where(c.b, c.cloth, faults); e != api.OK || !slices.Equal(l, want) {
				t.Fatal(c, faults, l, e, want)
			}
		}
	}
}

// P2.6, P2.7, P2.8: the longest chain and cloth: nothing is known but how many faults there may be.
func TestTheLongestCloth(t *testing.T) {
	b := belt(24, slices.Repeat([]api.ChainCard{card(-1, 1<<24-1)}, 60)...)
	for _, pick := range []int{api.ChainUnseen, 1<<24 - 1} {
		cloth := slices.Repeat([]int{pick}, 60)
		ways, choose, faulty := 0, 1, 1
		for faults := range api.MaxChainFaults + 1 {
			// 60 first cards, and so many of 60 steps that are faults of two kinds
			ways += 60 * choose * faulty
			choose, faulty = choose*(60-faults)/(faults+1), faulty*2
			if n, e := chain.Ways(b, cloth, faults); e != api.OK || n != ways {
				t.Error(faults, n, e, ways)
			}
		}
		if l, e := chain.Where(b, cloth, 0); e != api.OK || len(l) != 60 {
			t.Error(l, e)
		}
		first, steps, faults, e := chain.Course(b, cloth)
		if first != 0 || !slices.Equal(steps, slices.Repeat([]int{1}, 60)) || faults != 0 || e != api.OK {
			t.Error(first, steps, faults, e)
		}
	}
	b.Cards[0].Row = 0
	cloth := make([]int, 60)
	first, steps, faults, e := chain.Course(b, cloth)
	if first != 0 || !slices.Equal(steps, append(make([]int, 59), 1)) || faults != 59 || e != api.OK {
		t.Error(first, steps, faults, e)
	}
}

// P2.6, P2.7, P2.8: the errors, in their order.
func TestClothErrors(t *testing.T) {
	long := append(make([]int, 60), 16)
	for _, c := range []struct {
		cloth  []int
		faults int
		e      api.Errno
	}{
		{long, 0, api.ErrLong}, {make([]int, 61), -1, api.ErrLong}, {long, 7, api.ErrLong},
		{[]int{16}, 0, api.ErrArg}, {[]int{1, -2}, 7, api.ErrArg}, {[]int{-1, 1 << 62}, -1, api.ErrArg}, {[]int{-1 << 63}, 0, api.ErrArg},
		{[]int{1}, -1, api.ErrRange}, {[]int{1}, 7, api.ErrRange}, {nil, 1 << 62, api.ErrRange}, {[]int{5}, -1 << 63, api.ErrRange},
		{[]int{5}, 6, api.OK}, {make([]int, 60), 0, api.OK}, {[]int{-1, 15}, 0, api.OK},
	} {
		if n, e := chain.Ways(example(), c.cloth, c.faults); e != c.e || e != api.OK && n != 0 {
			t.Error(c, n, e)
		}
		if l, e := chain.Where(example(), c.cloth, c.faults); e != c.e || e != api.OK && len(l) != 0 {
			t.Error(c, l, e)
		}
		if c.e == api.OK || c.e == api.ErrRange {
			continue
		}
		if first, steps, faults, e := chain.Course(example(), c.cloth); e != c.e || first != 0 || len(steps) != 0 || faults != 0 {
			t.Error(c, first, steps, faults, e)
		}
	}
	for _, cloth := range [][]int{{5}, {8, 8, 5}, {1, 15, 4, 4, 1}} {
		if first, steps, faults, e := chain.Course(example(), cloth); e != api.ErrNone || first != 0 || len(steps) != 0 || faults != 0 {
			t.Error(cloth, first, steps, faults, e)
		}
	}
}

// P2.16: a course that truly wove a cloth is among the ways, its end among the places, and Course has no more faults.
func TestTheTruth(t *testing.T) {
	r := source(9)
	for _, b := range samples(400) {
		first, most := r.IntN(len(b.Cards)), r.IntN(api.MaxChainFaults+1)
		steps := slices.Repeat([]int{1}, r.IntN(61))
		for range min(most, len(steps)) {
			steps[r.IntN(len(steps))] = r.IntN(3)
		}
		cloth, end, _ := chain.Weave(b, first, steps)
		seen := slices.Clone(cloth)
		for pick := range cloth {
			if r.IntN(3) == 0 {
				cloth[pick] = api.ChainUnseen
			}
		}
		ways := must[int](t)(chain.Ways(b, cloth, most))
		if exact := must[int](t)(chain.Ways(b, seen, most)); exact < 1 || ways < exact {
			t.Fatal(b, seen, cloth, exact, ways)
		}
		if places := must[[]int](t)(chain.Where(b, cloth, most)); !slices.Contains(places, end) || !slices.IsSorted(places) {
			t.Fatal(b, cloth, places, end)
		}
		from, found, faults, e := chain.Course(b, cloth)
		if e != api.OK || faults > most {
			t.Fatal(b, cloth, most, faults, e)
		}
		again, _, e := chain.Weave(b, from, found)
		for pick := range cloth {
			if e != api.OK || cloth[pick] != api.ChainUnseen && cloth[pick] != again[pick] {
				t.Fatal(b, cloth, from, found, again, e)
			}
		}
		before := 0
		for allowed := range api.MaxChainFaults + 1 {
			n := must[int](t)(chain.Ways(b, cloth, allowed))
			if (n > 0) != (faults <= allowed) || n < before {
				t.Fatal(b, cloth, allowed, n, before, faults)
			}
			before = n
		}
	}
}
