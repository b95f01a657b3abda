package fault_test

import (
	"slices"
	"testing"

	"griffe/api"
	"griffe/fault"
)

// five is the damages of the chapter's example: the warp 4 is down at the pick 1.
func five() []api.FaultDamage {
	return list(card(1, 2), needle(2, false), swap(0), swap(1), thread(4))
}

// P5.6: the examples, the first pick and the first warp, and damages that are alike.
func TestTell(t *testing.T) {
	long := loom(4, []int{0, 1, 2, 3}, 1, 3, 4)
	for _, c := range []struct {
		l          api.FaultLoom
		a, b       api.FaultDamage
		pick, warp int
		e          api.Errno
	}{
		{example(), card(1, 2), thread(4), 1, 2, api.OK},
		{example(), thread(4), card(1, 2), 1, 2, api.OK},
		{example(), card(1, 2), needle(2, false), 0, 0, api.ErrNone},
		{example(), swap(0), swap(1), 0, 0, api.ErrNone},
		{example(), swap(0), thread(4), 0, 0, api.OK},
		{example(), card(0, 3), thread(5), 0, 3, api.OK},
		{example(), thread(5), thread(4), 1, 4, api.OK},
		{example(), needle(3, false), turn(1), 0, 0, api.ErrNone},
		{example(), turn(0), turn(0), 0, 0, api.ErrNone},
		{example(), needle(1, true), needle(1, false), 0, 1, api.OK},
		{long, swap(0), swap(1), 0, 1, api.OK},
		{long, card(2, 3), turn(2), 2, 1, api.OK},
		{long, card(2, 3), card(2, 3), 0, 0, api.ErrNone},
		{loom(3, []int{2}, 1), card(0, 0), card(0, 1), 0, 0, api.ErrNone},
		{loom(2, []int{1}, 0, 3), needle(0, true), swap(1), 0, 0, api.OK},
	} {
		if pick, warp, e := fault.Tell(c.l, c.a, c.b); e != c.e || pick != c.pick || warp != c.warp {
			t.Error(c, pick, warp, e)
		}
	}
	if pick, warp, e := fault.Tell(largest(), card(59, 23), thread(95)); e != api.OK || pick > 59 || warp > 95 {
		t.Error(pick, warp, e)
	}
}

// P5.6, P5.12: two damages are alike before the place of Tell, and differ there; they are in one group just if there is none.
func TestTellByPoints(t *testing.T) {
	r := source(9)
	for _, l := range samples(r, 1500) {
		a, b := anyDamage(r, l), anyDamage(r, l)
		one, other := naiveRound(l, a), naiveRound(l, b)
		wantPick, wantWarp, want := 0, 0, api.ErrNone
		for pick := range one {
			for warp := range one[pick] {
				if want == api.ErrNone && one[pick][warp] != other[pick][warp] {
					wantPick, wantWarp, want = pick, warp, api.OK
				}
			}
		}
		if pick, warp, e := fault.Tell(l, a, b); e != want || pick != wantPick || warp != wantWarp {
			t.Fatal(l, a, b, pick, warp, e, wantPick, wantWarp, want)
		}
		groups, e := fault.Groups(l, list(a, b))
		if alike := len(groups) == 1; e != api.OK || alike != (want == api.ErrNone) {
			t.Fatal(l, a, b, groups, e)
		}
	}
}

// P5.7: the fewest picks of the example, of damages that are alike, and of the last pick of a long chain.
func TestApart(t *testing.T) {
	long := loom(1, []int{0}, make([]int, 60)...)
	for _, c := range []struct {
		l       api.FaultLoom
		damages []api.FaultDamage
		picks   int
	}{
		{example(), five(), 2},
		{example(), nil, 0},
		{example(), list(card(1, 2)), 0},
		{example(), list(card(1, 2), needle(2, false), card(1, 2)), 0},
		{example(), list(swap(0), thread(4)), 1},
		{example(), list(card(1, 2), thread(4)), 2},
		{example(), list(swap(0), card(1, 2), thread(4)), 2},
		{example(), list(card(1, 2), thread(4), swap(0)), 2},
		{example(), list(turn(1), needle(3, false)), 0},
		{long, list(card(59, 0), turn(0)), 60},
		{long, list(card(59, 0), card(58, 0), turn(0)), 60},
		{long, list(card(59, 0), card(58, 0)), 59},
		{largest(), slices.Repeat(list(swap(59)), 100), 0},
	} {
		if picks, e := fault.Apart(c.l, c.damages); e != api.OK || picks != c.picks {
			t.Error(c.damages, picks, e)
		}
	}
}

// P5.8: groups of damages that are alike, by their first numbers.
func TestGroups(t *testing.T) {
	for _, c := range []struct {
		damages []api.FaultDamage
		groups  [][]int
	}{
		{five(), [][]int{{0, 1}, {2, 3}, {4}}},
		{nil, nil},
		{list(thread(4)), [][]int{{0}}},
		{list(swap(1), thread(4), swap(0), card(1, 2), thread(4), swap(1), needle(2, false)), [][]int{{0, 2, 5}, {1, 4}, {3, 6}}},
		{list(thread(4), thread(5), thread(1)), [][]int{{0}, {1}, {2}}},
		{list(turn(1), needle(3, false), thread(3)), [][]int{{0, 1, 2}}},
	} {
		groups, e := fault.Groups(example(), c.damages)
		if e != api.OK || !slices.EqualFunc(groups, c.groups, slices.Equal) {
			t.Error(c.damages, groups, e)
		}
	}
}

// P5.7, P5.8, P5.12: with as many picks as Apart says all are told apart that are not alike, with one fewer not; groups are those that are alike.
func TestTheFewestPicks(t *testing.T) {
	r := source(10)
	for at, l := range samples(r, 300) {
		damages := anyDamages(r, l, r.IntN(12))
		if at%50 == 0 {
			damages = anyDamages(r, l, api.MaxFaultDamages)
		}
		rows := len(l.Design.Rows)
		var rounds [][]string
		for _, d := range damages {
			rounds = append(rounds, naiveRound(l, d))
		}
		tells := func(picks int) bool {
			for _, a := range rounds {
				for _, b := range rounds {
					if slices.Equal(a[:picks], b[:picks]) && !slices.Equal(a, b) {
						return false
					}
				}
			}
			return true
		}
		want := 0
		for !tells(want) && want < rows {
			want++
		}
		if picks, e := fault.Apart(l, damages); e != api.OK || picks != want {
			t.Fatal(l, damages, picks, e, want)
		}
		var groups [][]int
		for i, round := range rounds {
			at := slices.IndexFunc(groups, func(group []int) bool { return slices.Equal(rounds[group[0]], round) })
			if at < 0 {
				groups = append(groups, []int{i})
			} else {
				groups[at] = append(groups[at], i)
			}
		}
		if got, e := fault.Groups(l, damages); e != api.OK || !slices.EqualFunc(got, groups, slices.Equal) {
			t.Fatal(l, damages, got, e, groups)
		}
	}
}

// P5.9: the example, the first one of several places, equal damages, and places of later picks.
func TestLook(t *testing.T) {
	long := loom(1, []int{0}, make([]int, 60)...)
	for _, c := range []struct {
		l                       api.FaultLoom
		damages                 []api.FaultDamage
		picks, pick, warp, left int
	}{
		{example(), five(), 2, 0, 0, 3},
		{example(), five(), 120, 0, 0, 3},
		{example(), five(), 1, 0, 0, 3},
		{example(), list(card(1, 2), thread(4)), 2, 1, 2, 1},
		{example(), list(card(1, 2), thread(4)), 1, 0, 0, 2},
		{example(), list(card(1, 2), thread(4)), 120, 1, 2, 1},
		{example(), list(thread(4)), 2, 0, 0, 1},
		{example(), list(swap(0), swap(0), swap(0), thread(4)), 2, 0, 0, 3},
		{example(), list(card(0, 3), thread(0), thread(1), thread(2)), 2, 0, 0, 3},
		{example(), list(thread(5), card(0, 3), turn(0), thread(4)), 2, 0, 3, 2},
		{example(), list(card(0, 2), thread(5), card(1, 1), card(0, 0)), 2, 1, 5, 2},
		{long, list(card(59, 0), turn(0)), 59, 0, 0, 2},
		{long, list(card(59, 0), turn(0)), 60, 59, 0, 1},
		{long, slices.Repeat(list(card(59, 0), turn(0)), 50), 120, 59, 0, 50},
	} {
		if pick, warp, left, e := fault.Look(c.l, c.damages, c.picks); e != api.OK || pick != c.pick || warp != c.warp || left != c.left {
			t.Error(c.damages, c.picks, pick, warp, left, e)
		}
	}
}

// P5.9: without damages there is nothing to look for; the number of picks comes before.
func TestLookErrors(t *testing.T) {
	for _, damages := range [][]api.FaultDamage{nil, {}} {
		for picks, want := range map[int]api.Errno{0: api.ErrRange, 121: api.ErrRange, 1: api.ErrNone, 120: api.ErrNone} {
			if pick, warp, left, e := fault.Look(example(), damages, picks); e != want || pick != 0 || warp != 0 || left != 0 {
				t.Error(picks, pick, warp, left, e)
			}
		}
	}
}

// P5.9, P5.13: at no place are fewer left than at the place of Look, and none as few before it; whatever is seen there, no more are left.
func TestALook(t *testing.T) {
	r := source(11)
	for _, l := range samples(r, 300) {
		damages, picks := anyDamages(r, l, 1+r.IntN(9)), 1+r.IntN(12)
		wantPick, wantWarp, want := 0, 0, len(damages)+1
		for pick := range picks {
			for warp := range l.Harness.Warps {
				count := map[bool]int{}
				for _, d := range damages {
					count[isUp(l, list(d), pick, warp)]++
				}
				if most := max(count[true], count[false]); most < want {
					wantPick, wantWarp, want = pick, warp, most
				}
			}
		}
		pick, warp, left, e := fault.Look(l, damages, picks)
		if e != api.OK || pick != wantPick || warp != wantWarp || left != want {
			t.Fatal(l, damages, picks, pick, warp, left, e, wantPick, wantWarp, want)
		}
		there := damages[r.IntN(len(damages))]
		possible := 0
		for _, d := range damages {
			if isUp(l, list(d), pick, warp) == isUp(l, list(there), pick, warp) {
				possible++
			}
		}
		if possible > left {
			t.Fatal(l, damages, pick, warp, left, possible)
		}
	}
}
