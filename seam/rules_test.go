package seam_test

import (
	"reflect"
	"slices"
	"testing"

	"griffe/api"
	"griffe/seam"
)

// asked is arguments of all functions.
type asked struct {
	a, b                   []api.SeamPart
	marks                  []int
	truth                  api.SeamTruth
	tolerance, edge, ahead int
	repeat                 int
	bad                    []int
	cuts                   []api.SeamCut
	picks                  int
}

// everything returns the results of all functions, with an error after the results that it is beside.
func everything(a asked) []any {
	all := []any{seam.Check(a.a)}
	add := func(results ...any) { all = append(all, results...) }
	places, e := seam.Places(a.a)
	add(places, e)
	spans, e := seam.Ahead(a.a, a.b, a.marks)
	add(spans, e)
	run, e := seam.Run(a.a, a.b, a.marks, a.truth)
	add(run, e)
	edge, apart, e := seam.Part(a.a, a.b, a.marks, a.tolerance)
	add(edge, apart, e)
	least, e := seam.Least(a.a, a.b, a.marks)
	add(least, e)
	marks, e := seam.Marks(a.a, a.b, a.tolerance)
	add(marks, e)
	truth, e := seam.Show(a.a, a.b, a.marks, a.edge, a.ahead)
	add(truth.A, truth.B, e)
	starts, need, e := seam.Cut(a.repeat, a.bad, a.cuts)
	add(starts, need, e)
	pieces, e := seam.Pieces(a.repeat, a.picks, a.cuts)
	add(pieces, e)
	return all
}

// spare returns a list that has room behind its end, and that room.
func spare[T any](l []T, filler T) (list, room []T) {
	room = append(slices.Clone(l), filler, filler, filler)
	return room[:len(l)], room
}

// spoil writes over the lists of results, and behind their ends.
func spoil(results []any) {
	for _, result := range results {
		switch r := result.(type) {
		case []int:
			spoilList(r, -9)
		case []api.Span:
			spoilList(r, span(-9, -9))
		}
	}
}

func spoilList[T any](l []T, filler T) {
	for at := range l {
		l[at] = filler
	}
	if cap(l) > len(l) {
		_ = append(l, filler)
	}
}

// P2, R4: equal results for equal arguments, which stay as they are, with what lies behind their ends; results are new memory.
func TestArgumentsAreKept(t *testing.T) {
	r := source(41)
	for many := 0; many < 100; {
		x, y, marks := small(r)
		spans, e := seam.Ahead(x, y, marks)
		if e != api.OK {
			continue
		}
		many++
		a := asked{edge: r.IntN(len(spans)), tolerance: r.IntN(9), repeat: 1 + r.IntN(20), picks: 50}
		a.ahead = spans[a.edge].Low
		a.truth, _ = seam.Show(x, y, marks, a.edge, a.ahead)
		var rooms [7]any
		a.a, rooms[0] = spare(x, api.SeamPart{Picks: -7})
		a.b, rooms[1] = spare(y, api.SeamPart{Picks: -7})
		a.marks, rooms[2] = spare(marks, -7)
		a.truth.A, rooms[3] = spare(a.truth.A, -7)
		a.truth.B, rooms[4] = spare(a.truth.B, -7)
		a.bad, rooms[5] = spare(anyBad(r, 60, r.IntN(5)), -7)
		a.cuts, rooms[6] = spare(anyCuts(r, a.repeat, 20, r.IntN(6)), api.SeamCut{Begin: -7, Picks: -7})
		kept := [7]any{slices.Clone(rooms[0].([]api.SeamPart)), slices.Clone(rooms[1].([]api.SeamPart)), slices.Clone(rooms[2].([]int)), slices.Clone(rooms[3].([]int)), slices.Clone(rooms[4].([]int)), slices.Clone(rooms[5].([]int)), slices.Clone(rooms[6].([]api.SeamCut))}
		call := func() []any {
			results := everything(a)
			if !reflect.DeepEqual(kept, rooms) {
				t.Fatal(a, "was changed:", kept, rooms)
			}
			return results
		}
		first, again := call(), call()
		if !reflect.DeepEqual(first, again) {
			t.Fatal(a, first, again)
		}
		spoil(first)
		if last := call(); !reflect.DeepEqual(again, last) {
			t.Fatal(a, again, last)
		}
	}
}

// P1, R2: no arguments lead to a panic, and results with an error are zero values.
func TestAnyArguments(t *testing.T) {
	odd := []int{deep, -1, 0, 1, 2, 3, 4, 100, 101, 200, 201, 10000, 10001, 100000, 100001, 2000000, 2000001, far}
	try := func(a asked) {
		t.Helper()
		var beside []any
		for _, result := range everything(a) {
			if e, ok := result.(api.Errno); ok {
				zero(t, e, beside...)
				beside = nil
				continue
			}
			beside = append(beside, result)
		}
	}
	truth := api.SeamTruth{A: []int{110, 110, 50}, B: []int{90, 90, 90}}
	ok := asked{a: exampleA(), b: exampleB(), marks: []int{3}, truth: truth, tolerance: 40, edge: 2, ahead: 40, repeat: 10, bad: []int{9}, cuts: cuts(0, 7, 8, 4), picks: 12}
	for _, x := range odd {
		for _, y := range odd {
			a := ok
			a.edge, a.ahead, a.tolerance, a.repeat, a.picks = x, y, y, x, y
			try(a)
			a.marks, a.repeat, a.bad = []int{x, y}, 10, []int{x, y}
			try(a)
			a.marks, a.bad, a.cuts = nil, nil, cuts(x, y, y, x)
			try(a)
			a.a, a.b = length(x, 1, y), length(x, y, 2)
			a.truth = api.SeamTruth{A: []int{x}, B: []int{y}}
			try(a)
			a.a, a.b, a.marks = length(1, x, y, 2, 3, 3), length(3, y, x), []int{y}
			a.truth = api.SeamTruth{A: []int{x, 3, 3}, B: []int{y, y, x}}
			try(a)
			a.a, a.b, a.marks = length(x, 3, 3, y, 3, 3), length(y, 3, 3, x, 3, 3), []int{x}
			try(a)
		}
	}
}

// R3: a nil list and an empty one are the same.
func TestNilIsEmpty(t *testing.T) {
	a, b := exampleA(), exampleB()
	truth, _ := seam.Show(a, b, nil, 3, -50)
	for _, none := range [][]int{nil, {}} {
		if spans, e := seam.Ahead(a, b, none); e != api.OK || len(spans) != 4 || spans[3] != span(-50, 0) {
			t.Error(spans, e)
		}
		if run, e := seam.Run(a, b, none, truth); e != api.OK || len(run) != 4 || run[3] != -50 {
			t.Error(run, e)
		}
		if _, need, e := seam.Cut(10, none, cuts(0, 7)); e != api.OK || need != 7 {
			t.Error(need, e)
		}
		if run, e := seam.Run(a, b, nil, api.SeamTruth{A: none, B: none}); e != api.ErrForm {
			t.Error(run, e)
		}
	}
	for _, none := range [][]api.SeamPart{nil, {}} {
		if places, e := seam.Places(none); e != api.ErrNone {
			t.Error(places, e)
		}
	}
	for _, none := range [][]api.SeamCut{nil, {}} {
		if starts, need, e := seam.Cut(10, nil, none); e != api.OK || len(starts) != 0 || need != 0 {
			t.Error(starts, need, e)
		}
		if n, e := seam.Pieces(10, 5, none); e != api.OK || n != 0 {
			t.Error(n, e)
		}
	}
}
