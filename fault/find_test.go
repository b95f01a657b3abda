package fault_test

import (
	"math/rand/v2"
	"slices"
	"testing"

	"griffe/api"
	"griffe/fault"
)

// naiveAll returns all damages that show, from all that any fields could make, in the order of the chapter.
func naiveAll(l api.FaultLoom) []api.FaultDamage {
	whole := naive(l, nil, len(l.Design.Rows))
	var all []api.FaultDamage
	try := func(d api.FaultDamage) {
		if fault.Check(l, list(d)) == api.OK && !slices.Equal(naiveRound(l, d), whole) {
			all = append(all, d)
		}
	}
	for kind := range api.FaultKind(7) {
		for pick := -1; pick <= len(l.Design.Rows); pick++ {
			for hook := -1; hook <= l.Design.Hooks; hook++ {
				for warp := -1; warp <= len(l.Harness.Warps); warp++ {
					try(api.FaultDamage{Kind: kind, Pick: pick, Hook: hook, Warp: warp})
					try(api.FaultDamage{Kind: kind, Pick: pick, Hook: hook, Warp: warp, Up: true})
				}
			}
		}
	}
	return all
}

// agree reports whether all sights are as they were seen with damages.
func agree(l api.FaultLoom, damages []api.FaultDamage, sights []api.FaultSight) bool {
	return !slices.ContainsFunc(sights, func(s api.FaultSight) bool {
		return isUp(l, damages, s.Pick, s.Warp) != s.Lifted
	})
}

// seen returns so many sights of the cloth with damages.
func seen(r *rand.Rand, l api.FaultLoom, damages []api.FaultDamage, many int) []api.FaultSight {
	var sights []api.FaultSight
	for range many {
		pick, warp := r.IntN(api.MaxFaultPicks), r.IntN(len(l.Harness.Warps))
		sights = append(sights, sight(pick, warp, isUp(l, damages, pick, warp)))
	}
	return sights
}

// P5.4: the damages of the example, of a loom of which few show, and of one of which none but holes do.
func TestAll(t *testing.T) {
	for _, c := range []struct {
		l   api.FaultLoom
		all []api.FaultDamage
	}{
		{example(), list(
			card(0, 0), card(0, 1), card(0, 2), card(0, 3), card(1, 0), card(1, 1), card(1, 2), card(1, 3),
			needle(0, false), needle(0, true), needle(1, false), needle(1, true), needle(2, false), needle(2, true), needle(3, true),
			turn(0), swap(0), swap(1), thread(0), thread(1), thread(2), thread(4), thread(5),
		)},
		{loom(3, []int{2, 2}, 0, 0), list(card(0, 2), card(1, 2), needle(2, true))},
		{loom(3, []int{2, 1}, 7, 7), list(card(0, 1), card(0, 2), card(1, 1), card(1, 2), needle(1, false), needle(2, false), thread(0), thread(1))},
		{loom(1, []int{0}, 1), list(card(0, 0), needle(0, false), thread(0))},
		{loom(2, []int{0}, 2, 1, 2), list(
			card(0, 0), card(1, 0), card(2, 0), needle(0, false), needle(0, true), turn(0), turn(1), turn(2), swap(0), swap(1), thread(0),
		)},
	} {
		if all, e := fault.All(c.l); e != api.OK || !slices.Equal(all, c.all) {
			t.Error(c.l, all, e)
		}
	}
}

// P5.4, P5.11: a damage is one of All just if it shows: if Wrong is not empty for as many picks as there are rows.
func TestAllShow(t *testing.T) {
	r := source(6)
	for at, l := range samples(r, 120) {
		if at%10 == 9 {
			continue
		}
		all, e := fault.All(l)
		if e != api.OK || !slices.Equal(all, naiveAll(l)) {
			t.Fatal(l, all, e, naiveAll(l))
		}
	}
	for _, l := range append(samples(r, 100), largest()) {
		all, e := fault.All(l)
		if e != api.OK {
			t.Fatal(l, e)
		}
		for _, d := range append(anyDamages(r, l, 60), all[:min(60, len(all))]...) {
			wrong, e := fault.Wrong(l, list(d), len(l.Design.Rows))
			if shows := len(wrong) > 0; e != api.OK || shows != slices.Contains(all, d) {
				t.Fatal(l, d, wrong, e)
			}
		}
	}
}

// P5.4: all damages of a loom at its limits.
func TestAllOfTheLargest(t *testing.T) {
	all, e := fault.All(largest())
	count := map[api.FaultKind]int{}
	for _, d := range all {
		count[d.Kind]++
	}
	if e != api.OK || count[api.FaultCard] != 60*24 || count[api.FaultNeedle] != 48 || count[api.FaultTurn] != 60 || count[api.FaultSwap] != 60 || count[api.FaultThread] != 96 {
		t.Error(count, e)
	}
}

// P5.5: the example, what is seen without a damage, nothing seen, and what no damage makes.
func TestCan(t *testing.T) {
	all, _ := fault.All(example())
	for _, c := range []struct {
		sights []api.FaultSight
		can    []api.FaultDamage
		fine   bool
	}{
		{[]api.FaultSight{sight(1, 4, false)}, list(card(1, 2), needle(2, false), swap(0), swap(1), thread(4)), false},
		{[]api.FaultSight{sight(1, 4, false), sight(1, 2, true)}, list(thread(4)), false},
		{[]api.FaultSight{sight(119, 4, false), sight(3, 2, true)}, list(thread(4)), false},
		{[]api.FaultSight{sight(1, 4, false), sight(0, 0, true)}, list(card(1, 2), needle(2, false), thread(4)), false},
		{[]api.FaultSight{sight(0, 3, true)}, list(card(0, 3), needle(3, true), turn(0)), false},
		{[]api.FaultSight{sight(118, 3, true)}, list(card(0, 3), needle(3, true), turn(0)), false},
		{[]api.FaultSight{sight(1, 4, false), sight(1, 4, true)}, nil, false},
		{[]api.FaultSight{sight(0, 3, true), sight(1, 4, false)}, nil, false},
		{nil, all, true},
	} {
		if can, fine, e := fault.Can(example(), c.sights); e != api.OK || fine != c.fine || !slices.Equal(can, c.can) {
			t.Error(c.sights, can, fine, e)
		}
	}
	can, fine, e := fault.Can(example(), []api.FaultSight{sight(1, 4, true)})
	if e != api.OK || !fine || len(can) != len(all)-5 || slices.Contains(can, thread(4)) || slices.Contains(can, turn(1)) {
		t.Error(can, fine, e)
	}
}

// P5.5: the errors of sights, in their order, and sights up to their limits.
func TestCanErrors(t *testing.T) {
	good := sight(119, 5, true)
	for _, s := range []api.FaultSight{sight(-1, 0, true), sight(120, 0, true), sight(-1<<63, 0, false), sight(1<<63-1, 0, true), sight(0, -1, false), sight(0, 6, true), sight(0, -1<<63, true), sight(0, 1<<63-1, false)} {
		for _, sights := range [][]api.FaultSight{{s}, {good, s}, append(slices.Repeat([]api.FaultSight{good}, 59), s)} {
			if can, fine, e := fault.Can(example(), sights); e != api.ErrArg || len(can) != 0 || fine {
				t.Error(sights, can, fine, e)
			}
		}
		if can, fine, e := fault.Can(example(), slices.Repeat([]api.FaultSight{s}, 61)); e != api.ErrLong || len(can) != 0 || fine {
			t.Error(s, can, fine, e)
		}
	}
	if can, fine, e := fault.Can(example(), slices.Repeat([]api.FaultSight{sight(0, 0, true)}, 61)); e != api.ErrLong || len(can) != 0 || fine {
		t.Error(can, fine, e)
	}
	if can, fine, e := fault.Can(example(), slices.Repeat([]api.FaultSight{good}, 60)); e != api.OK || len(can) == 0 || !fine {
		t.Error(can, fine, e)
	}
	if can, fine, e := fault.Can(largest(), []api.FaultSight{sight(119, 95, true), sight(119, 95, false)}); e != api.OK || len(can) != 0 || fine {
		t.Error(can, fine, e)
	}
}

// P5.5, P5.10: of what was seen with a damage, Can returns it, and of All just those with which it is seen so; with one more sight none is added.
func TestJustThose(t *testing.T) {
	r := source(7)
	for _, l := range samples(r, 250) {
		all, _ := fault.All(l)
		if len(all) == 0 {
			continue
		}
		d := all[r.IntN(len(all))]
		sights := seen(r, l, list(d), r.IntN(8))
		var before []api.FaultDamage
		for many := range len(sights) + 1 {
			can, fine, e := fault.Can(l, sights[:many])
			var want []api.FaultDamage
			for _, d := range all {
				if agree(l, list(d), sights[:many]) {
					want = append(want, d)
				}
			}
			if e != api.OK || !slices.Equal(can, want) || fine != agree(l, nil, sights[:many]) || !slices.Contains(can, d) {
				t.Fatal(l, d, sights[:many], can, fine, e, want)
			}
			added := func(d api.FaultDamage) bool { return !slices.Contains(before, d) }
			if many > 0 && slices.ContainsFunc(can, added) {
				t.Fatal(l, sights[:many], before, can)
			}
			before = can
		}
	}
}

// P5.5, P5.10: sights that no one damage need make.
func TestCanOfAnySights(t *testing.T) {
	r := source(8)
	for _, l := range samples(r, 250) {
		all, _ := fault.All(l)
		sights := seen(r, l, anyDamages(r, l, 2), 1+r.IntN(5))
		var want []api.FaultDamage
		for _, d := range all {
			if agree(l, list(d), sights) {
				want = append(want, d)
			}
		}
		if can, fine, e := fault.Can(l, sights); e != api.OK || !slices.Equal(can, want) || fine != agree(l, nil, sights) {
			t.Fatal(l, sights, can, fine, e, want)
		}
	}
}
