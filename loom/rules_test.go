package loom_test

import (
	"reflect"
	"slices"
	"testing"

	"griffe/api"
	"griffe/loom"
)

// asked is arguments of all functions.
type asked struct {
	m    api.LoomMill
	l    []api.LoomOrder
	plan []api.LoomRun
	stop api.LoomStop
}

// everything returns the results of all functions, with an error after the results that it is beside. Where a run has an error is not among them.
func everything(a asked) []any {
	all := []any{loom.Check(a.m, a.l)}
	add := func(results ...any) { all = append(all, results...) }
	_, e := loom.Holds(a.m, a.l, a.plan)
	add(e)
	plan, e := loom.Plan(a.m, a.l)
	add(plan, e)
	against, e := loom.Against(a.m, a.l)
	add(against, e)
	left, e := loom.Left(a.m, a.l)
	add(left, e)
	days, work, e := loom.Over(a.m, a.l)
	add(days, work, e)
	looms, e := loom.Fewest(a.m, a.l)
	add(looms, e)
	stops, e := loom.Stops(a.m, a.l, a.plan, a.stop)
	add(stops, e)
	after, late, e := loom.Push(a.m, a.l, a.plan, a.stop)
	add(after, late, e)
	return all
}

// spare returns a list that has room behind its end, and that room.
func spare[T any](l []T, filler T) (list, room []T) {
	room = append(slices.Clone(l), filler, filler, filler)
	return room[:len(l)], room
}

// spoil writes over the lists of results, and behind their ends.
func spoil(results []any) {
	for _, result := range results {
		switch r := result.(type) {
		case []int:
			spoilList(r, -9)
		case []api.LoomRun:
			spoilList(r, api.LoomRun{Order: -9})
		}
	}
}

func spoilList[T any](l []T, filler T) {
	for at := range l {
		l[at] = filler
	}
	if cap(l) > len(l) {
		_ = append(l, filler)
	}
}

// P2, R4: equal results for equal arguments, which stay as they are, with what lies behind their ends; results are new memory.
func TestArgumentsAreKept(t *testing.T) {
	r := source(8)
	for many := 0; many < 200; many++ {
		m, l := anyMill(r, 3), anyOrders(r, upTo(r, 0, 5), 5, 20)
		plan, _ := loom.Plan(m, l)
		a := asked{m: m, stop: stop(r.IntN(len(m.Widths)), 3, 4)}
		var rooms [3]any
		a.m.Widths, rooms[0] = spare(m.Widths, -7)
		a.l, rooms[1] = spare(l, api.LoomOrder{Woven: -7})
		a.plan, rooms[2] = spare(plan, api.LoomRun{From: -7})
		kept := [3]any{slices.Clone(rooms[0].([]int)), slices.Clone(rooms[1].([]api.LoomOrder)), slices.Clone(rooms[2].([]api.LoomRun))}
		call := func() []any {
			results := everything(a)
			if !reflect.DeepEqual(kept, rooms) {
				t.Fatal(a, "was changed:", kept, rooms)
			}
			return results
		}
		one, again := call(), call()
		if !reflect.DeepEqual(one, again) {
			t.Fatal(a, one, again)
		}
		spoil(one)
		if last := call(); !reflect.DeepEqual(again, last) {
			t.Fatal(a, again, last)
		}
	}
}

// P1, R2: no arguments lead to a panic, and results with an error are zero values.
func TestAnyArguments(t *testing.T) {
	odd := []int{deep, -1, 0, 1, 2, 3, 7, 20, 21, 100, 101, 300, 301, far}
	try := func(a asked) {
		t.Helper()
		var beside []any
		for _, result := range everything(a) {
			if e, ok := result.(api.Errno); ok {
				zero(t, e, beside...)
				beside = nil
				continue
			}
			beside = append(beside, result)
		}
	}
	ok := asked{exampleMill(), example(), examplePlan(), stop(0, 5, 6)}
	for _, x := range odd {
		for _, y := range odd {
			a := ok
			a.stop = stop(x, y, y)
			try(a)
			a.stop = stop(1, x, y)
			try(a)
			a.plan = runs(x, 0, y, 1, x, y)
			try(a)
			a.plan = runs(0, 0, x, 1, 1, y, 2, 0, y)
			try(a)
			a.m = mill(x, y, 10)
			try(a)
			a.m, a.l = mill(2, 10), orders(x, y, 3, 0, 9, y, x, 2, 1, 300)
			try(a)
			a.l = orders(1, 2, x, y, 300, 1, 1, 5, x, y, 1, 1, y, 0, x)
			try(a)
		}
	}
}

// R3: a nil list and an empty one are the same.
func TestNilIsEmpty(t *testing.T) {
	m, l := exampleMill(), example()
	for _, none := range [][]api.LoomOrder{nil, {}} {
		for _, plan := range [][]api.LoomRun{nil, {}} {
			want := []api.Errno{api.OK, api.OK, api.OK, api.ErrNone, api.OK, api.ErrNone, api.OK, api.OK, api.OK}
			for _, result := range everything(asked{m, none, plan, stop(0, 0, 0)}) {
				if e, ok := result.(api.Errno); ok {
					if e != want[0] {
						t.Error(e, want)
					}
					want = want[1:]
					continue
				}
				if v := reflect.ValueOf(result); v.Kind() == reflect.Slice && v.Len() > 0 || v.Kind() != reflect.Slice && !v.IsZero() {
					t.Error(result)
				}
			}
			if at, e := loom.Holds(m, l, plan); at != 0 || e != api.OK {
				t.Error(at, e)
			}
			if after, late, e := loom.Push(m, l, plan, stop(1, 0, 9)); len(after)+len(late) != 0 || e != api.OK {
				t.Error(after, late, e)
			}
		}
	}
	for _, none := range [][]int{nil, {}} {
		if e := loom.Check(mill(2, none...), l); e != api.ErrArg {
			t.Error(e)
		}
	}
}
