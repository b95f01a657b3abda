package shade_test

import (
	"reflect"
	"slices"
	"testing"

	"griffe/api"
	"griffe/shade"
)

// asked is arguments of all functions.
type asked struct {
	lots         []api.ShadeLot
	some         []int
	tolerance    int
	need         api.ShadeNeed
	needs        []api.ShadeNeed
	grams, scale int
	l            []api.ShadeEntry
	entry        int
}

// withLots returns the results of the functions with lots, with an error after the results that it is beside. Which need has an error is not among them.
func withLots(a asked) []any {
	all := []any{shade.Check(a.lots)}
	add := func(results ...any) { all = append(all, results...) }
	spread, e := shade.Spread(a.lots, a.some)
	add(spread, e)
	cloths, e := shade.Cloths(a.lots, a.tolerance)
	add(cloths, e)
	apart, e := shade.Apart(a.lots, a.tolerance)
	add(apart, e)
	list, e := shade.Fill(a.lots, a.tolerance, a.need)
	add(list, e)
	lists, _, e := shade.Way(a.lots, a.tolerance, a.needs)
	add(lists, e)
	row, seams, e := shade.Row(a.lots, a.tolerance)
	add(row, seams, e)
	return all
}

// everything returns the results of all functions. Which need or entry has an error is not among them.
func everything(a asked) []any {
	all := withLots(a)
	left, _, e := shade.Book(a.grams, a.scale, a.l)
	all = append(all, left, e)
	was, e := shade.Was(a.grams, a.scale, a.l, a.entry)
	all = append(all, was, e)
	scale, e := shade.Scale(a.grams, a.l)
	return append(all, scale, e)
}

// spare returns a list that has room behind its end, and that room.
func spare[T any](l []T, filler T) (list, room []T) {
	room = append(slices.Clone(l), filler, filler, filler)
	return room[:len(l)], room
}

// spoil writes over the lists of results, and behind their ends.
func spoil(results []any) {
	for _, result := range results {
		switch r := result.(type) {
		case []int:
			spoilList(r, -9)
		case [][]int:
			for _, list := range r {
				spoilList(list, -9)
			}
			spoilList(r, nil)
		}
	}
}

func spoilList[T any](l []T, filler T) {
	for at := range l {
		l[at] = filler
	}
	if cap(l) > len(l) {
		_ = append(l, filler)
	}
}

// P2, R4: equal results for equal arguments, which stay as they are, with what lies behind their ends; results are new memory.
func TestArgumentsAreKept(t *testing.T) {
	r := source(12)
	for many := 0; many < 200; many++ {
		l := anyLots(r, upTo(r, 0, 7), 2, 20, 5)
		a := asked{tolerance: upTo(r, 5, 12), need: need(0, upTo(r, 1, 12)), grams: upTo(r, 1, 20), scale: upTo(r, 0, 9), entry: r.IntN(3)}
		var rooms [4]any
		a.lots, rooms[0] = spare(l, api.ShadeLot{Grams: -7})
		a.some, rooms[1] = spare(r.Perm(len(l)), -7)
		a.needs, rooms[2] = spare(needs(1, upTo(r, 1, 12), 0, upTo(r, 1, 12)), api.ShadeNeed{Grams: -7})
		a.l, rooms[3] = spare(anyEntries(r, 4, 12), api.ShadeEntry{Grams: -7})
		kept := [4]any{slices.Clone(rooms[0].([]api.ShadeLot)), slices.Clone(rooms[1].([]int)), slices.Clone(rooms[2].([]api.ShadeNeed)), slices.Clone(rooms[3].([]api.ShadeEntry))}
		call := func() []any {
			results := everything(a)
			if !reflect.DeepEqual(kept, rooms) {
				t.Fatal(a, "was changed:", kept, rooms)
			}
			return results
		}
		one, again := call(), call()
		if !reflect.DeepEqual(one, again) {
			t.Fatal(a, one, again)
		}
		spoil(one)
		if last := call(); !reflect.DeepEqual(again, last) {
			t.Fatal(a, again, last)
		}
	}
}

// R4: the lists of one result share no memory.
func TestListsAreApart(t *testing.T) {
	l := append(example(), lots(2, 0, 0, 7, 3, 0, 9, 7, 2, 1, 1, 7)...)
	cloths, _ := shade.Cloths(l, 20)
	lists, _, _ := shade.Way(l, 20, needs(2, 14, 1, 800, 3, 1))
	if len(cloths) < 5 || len(lists) != 3 {
		t.Fatal(cloths, lists)
	}
	for _, result := range [][][]int{cloths, lists} {
		kept := slices.Clone(result)
		for at := range kept {
			kept[at] = slices.Clone(kept[at])
		}
		for at := range result {
			spoilList(result[at], -9)
			copy(result[at], kept[at])
		}
		if !reflect.DeepEqual(result, kept) {
			t.Error(result, kept)
		}
	}
}

// P1, R2: no arguments lead to a panic, and results with an error are zero values.
func TestAnyArguments(t *testing.T) {
	odd := []int{deep, -1, 0, 1, 2, 3, 9, 10, 12, 1000, 1001, 1000000, 1000001, 12000000, 12000001, far}
	try := func(a asked) {
		t.Helper()
		var beside []any
		for _, result := range everything(a) {
			if e, ok := result.(api.Errno); ok {
				zero(t, e, beside...)
				beside = nil
				continue
			}
			beside = append(beside, result)
		}
	}
	ok := asked{example(), []int{0, 1}, 20, need(1, 700), needs(1, 700), 1000, 5, exampleBook(540), 1}
	try(ok)
	for _, x := range odd {
		for _, y := range odd {
			a := ok
			a.some, a.tolerance, a.need, a.needs, a.entry = []int{x, y}, x, need(x, y), needs(x, y, y, x), y
			try(a)
			a = ok
			a.grams, a.scale, a.entry = x, y, x
			try(a)
			a = ok
			a.l, a.entry = entries(1, x, x, y, 2, y, 3, x), y
			try(a)
			a = ok
			a.lots, a.tolerance = lots(x, y, y, 5, 1, x, y, 7, 2, 3, x, y), y
			try(a)
		}
	}
}

// R3: a nil list and an empty one are the same.
func TestNilIsEmpty(t *testing.T) {
	for _, none := range [][]api.ShadeLot{nil, {}} {
		for _, some := range [][]int{nil, {}} {
			for _, wanted := range [][]api.ShadeNeed{nil, {}} {
				results := withLots(asked{lots: none, some: some, needs: wanted, need: need(1, 1)})
				want := []api.Errno{api.OK, api.ErrNone, api.OK, api.OK, api.ErrNone, api.OK, api.OK}
				for _, result := range results {
					if e, ok := result.(api.Errno); ok {
						if e != want[0] {
							t.Error(e, want)
						}
						want = want[1:]
						continue
					}
					if v := reflect.ValueOf(result); v.Kind() == reflect.Slice && v.Len() > 0 || v.Kind() != reflect.Slice && !v.IsZero() {
						t.Error(result)
					}
				}
				if lists, at, e := shade.Way(example(), 20, wanted); len(lists) != 0 || at != 0 || e != api.OK {
					t.Error(lists, at, e)
				}
				if _, e := shade.Spread(example(), some); e != api.ErrNone {
					t.Error(e)
				}
			}
		}
	}
	for _, none := range [][]api.ShadeEntry{nil, {}} {
		left, at, e := shade.Book(7, 3, none)
		scale, f := shade.Scale(7, none)
		if _, g := shade.Was(7, 3, none, 0); left != (api.Span{Low: 7, High: 7}) || at != 0 || scale != 0 || e != api.OK || f != api.OK || g != api.ErrNone {
			t.Error(left, at, scale, e, f, g)
		}
	}
}
