package fault_test

import (
	"reflect"
	"slices"
	"testing"

	"griffe/api"
	"griffe/fault"
)

// spare returns a list that has room behind its end, and that room.
func spare[T any](l []T, filler T) (list, room []T) {
	room = append(slices.Clone(l), filler, filler, filler)
	return room[:len(l)], room
}

// everything returns the results of all functions for a loom, damages, sights and picks; Tell has the first two damages.
func everything(l api.FaultLoom, damages []api.FaultDamage, sights []api.FaultSight, picks int) []any {
	var all []any
	add := func(results ...any) { all = append(all, results...) }
	add(fault.Check(l, damages))
	cloth, e := fault.Weave(l, damages, picks)
	add(cloth, e)
	wrong, e := fault.Wrong(l, damages, picks)
	add(wrong, e)
	show, e := fault.All(l)
	add(show, e)
	can, fine, e := fault.Can(l, sights)
	add(can, fine, e)
	if len(damages) > 1 {
		pick, warp, e := fault.Tell(l, damages[0], damages[1])
		add(pick, warp, e)
	}
	apart, e := fault.Apart(l, damages)
	add(apart, e)
	groups, e := fault.Groups(l, damages)
	add(groups, e)
	pick, warp, left, e := fault.Look(l, damages, picks)
	add(pick, warp, left, e)
	return all
}

// spoil writes over the lists of results, and behind their ends.
func spoil(results []any) {
	for _, result := range results {
		switch r := result.(type) {
		case []string:
			spoilList(r, "spoilt")
		case []api.FaultSight:
			spoilList(r, sight(-9, -9, true))
		case []api.FaultDamage:
			spoilList(r, card(-9, -9))
		case [][]int:
			for _, group := range r {
				spoilList(group, -9)
			}
			spoilList(r, []int{-9})
		}
	}
}

func spoilList[T any](l []T, filler T) {
	for at := range l {
		l[at] = filler
	}
	_ = append(l, filler)
}

// P2, R4: equal results for equal arguments, which stay as they are, with what lies behind their ends; results are new memory.
func TestArgumentsAreKept(t *testing.T) {
	r := source(12)
	for _, l := range samples(r, 150) {
		damages, damageRoom := spare(anyDamages(r, l, r.IntN(9)), card(-7, -7))
		sights, sightRoom := spare(seen(r, l, damages, r.IntN(3)), sight(-7, -7, true))
		warps, warpRoom := spare(l.Harness.Warps, -7)
		rows, rowRoom := spare(l.Design.Rows, -7)
		kept := []any{slices.Clone(damageRoom), slices.Clone(sightRoom), slices.Clone(warpRoom), slices.Clone(rowRoom)}
		l.Harness.Warps, l.Design.Rows = warps, rows
		picks := 1 + r.IntN(120)
		call := func() []any {
			results := everything(l, damages, sights, picks)
			if now := []any{damageRoom, sightRoom, warpRoom, rowRoom}; !reflect.DeepEqual(kept, now) {
				t.Fatal(l, "was changed:", kept, now)
			}
			return results
		}
		first, again := call(), call()
		if !reflect.DeepEqual(first, again) {
			t.Fatal(l, damages, sights, first, again)
		}
		spoil(first)
		if last := call(); !reflect.DeepEqual(again, last) {
			t.Fatal(l, damages, sights, again, last)
		}
	}
}

// R4: the groups of one result share no memory.
func TestGroupsShareNothing(t *testing.T) {
	damages := list(swap(0), thread(4), swap(1), thread(5), swap(0))
	groups, _ := fault.Groups(example(), damages)
	want := [][]int{{0, 2, 4}, {1}, {3}}
	for at := range groups {
		_ = append(groups[at], -9, -9, -9)
	}
	if !slices.EqualFunc(groups, want, slices.Equal) {
		t.Error(groups)
	}
}

// P1, R2: no arguments lead to a panic, and results with an error are zero values.
func TestAnyArguments(t *testing.T) {
	odd := []int{-1 << 63, -1, 0, 1, 2, 3, 6, 24, 25, 60, 120, 1<<63 - 1}
	try := func(l api.FaultLoom, d api.FaultDamage, s api.FaultSight, picks int) {
		t.Helper()
		for _, damages := range [][]api.FaultDamage{nil, list(d), list(card(0, 0), d, d)} {
			errorsOf(t, l, damages, picks)
		}
		tellError(t, l, d, card(0, 0))
		if all, e := fault.All(l); e != api.OK && len(all) != 0 {
			t.Error(l, all, e)
		}
		if can, fine, e := fault.Can(l, []api.FaultSight{s, s}); e != api.OK && (len(can) != 0 || fine) {
			t.Error(l, s, can, fine, e)
		}
	}
	for _, a := range odd {
		for _, b := range odd {
			s := sight(a, b, true)
			for kind := range api.FaultKind(7) {
				try(example(), api.FaultDamage{Kind: kind, Pick: a, Hook: b}, s, a)
				try(example(), api.FaultDamage{Kind: kind, Hook: a, Warp: b, Up: true}, s, b)
				try(example(), api.FaultDamage{Kind: kind, Warp: a}, s, b)
			}
			try(example(), api.FaultDamage{Kind: api.FaultKind(a)}, s, b)
			for _, l := range []api.FaultLoom{loom(a, []int{b}, 1), loom(a, []int{0}, b), loom(3, []int{a, b}, 1), loom(3, []int{0}, a, b), loom(a, nil), {}} {
				try(l, card(0, 0), s, 3)
				try(l, needle(a, true), s, 3)
				try(l, turn(b), s, 3)
			}
			uneven := example()
			uneven.Harness.Hooks, uneven.Design.Hooks = a, b
			try(uneven, swap(0), s, 3)
		}
	}
}

// R3: a nil list and an empty one are the same.
func TestNilIsEmpty(t *testing.T) {
	all, _ := fault.All(example())
	for _, damages := range [][]api.FaultDamage{nil, {}} {
		if e := fault.Check(example(), damages); e != api.OK {
			t.Error(e)
		}
		cloth, e := fault.Weave(example(), damages, 2)
		if e != api.OK || !slices.Equal(cloth, []string{"x.....", ".xx.xx"}) {
			t.Error(cloth, e)
		}
		groups, e := fault.Groups(example(), damages)
		if e != api.OK || len(groups) != 0 {
			t.Error(groups, e)
		}
	}
	for _, sights := range [][]api.FaultSight{nil, {}} {
		if can, fine, e := fault.Can(example(), sights); e != api.OK || !fine || !slices.Equal(can, all) {
			t.Error(can, fine, e)
		}
	}
}
