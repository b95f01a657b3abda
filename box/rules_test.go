package box_test

import (
	"reflect"
	"slices"
	"testing"

	"griffe/api"
	"griffe/box"
)

// spare returns a list that has room behind its end, and that room.
func spare[T any](l []T, filler T) (list, room []T) {
	room = append(slices.Clone(l), filler, filler, filler)
	return room[:len(l)], room
}

// everything returns the results of all functions for a loom, picks, an order and groups.
func everything(l api.BoxLoom, picks []api.BoxPick, order []int, groups [][]int) []any {
	var all []any
	add := func(results ...any) { all = append(all, results...) }
	add(box.Check(l))
	colours, after, moves, at, e := box.Throw(l, picks)
	add(colours, after, moves, at, e)
	colours, e = box.Can(l)
	add(colours, e)
	fewest, moves, at, e := box.Fewest(l, order)
	add(fewest, moves, at, e)
	colours, moves, e = box.Groups(l, groups)
	add(colours, moves, e)
	left, at, e := box.Yarn(l, picks)
	add(left, at, e)
	possibly, surely, e := box.Runs(l, picks)
	add(possibly, surely, e)
	rounds, e := box.Round(l, picks)
	add(rounds, e)
	return all
}

// spoil writes over the lists of results, and behind their ends.
func spoil(results []any) {
	for _, result := range results {
		switch r := result.(type) {
		case []int:
			spoilList(r, -9)
		case []api.BoxPick:
			spoilList(r, pick(-9, -9))
		case []api.Span:
			spoilList(r, span(-9, -9))
		case api.BoxLoom:
			spoilList(r.Boxes, -9)
			spoilList(r.At, -9)
			spoilList(r.Shuttles, shuttle(-9, -9, -9, -9, -9))
		}
	}
}

func spoilList[T any](l []T, filler T) {
	for at := range l {
		l[at] = filler
	}
	_ = append(l, filler)
}

// P2, R4: equal results for equal arguments, which stay as they are, with what lies behind their ends; results are new memory.
func TestArgumentsAreKept(t *testing.T) {
	r := source(14)
	for _, l := range samples(r, 150, 4) {
		walked, _, _ := walk(r, l, r.IntN(8))
		woven := colours(r, l, 8)
		picks, pickRoom := spare(walked, pick(-7, -7))
		order, orderRoom := spare(woven, -7)
		groups, groupRoom := spare(grouped(r, woven), []int{-7})
		first, firstRoom := spare(groups[0], -7)
		groups[0] = first
		boxes, boxRoom := spare(l.Boxes, -7)
		at, atRoom := spare(l.At, -7)
		shuttles, shuttleRoom := spare(l.Shuttles, shuttle(-7, -7, -7, -7, -7))
		rooms := func() []any {
			deep := slices.Clone(groupRoom)
			for i, group := range deep {
				deep[i] = slices.Clone(group)
			}
			return []any{slices.Clone(pickRoom), slices.Clone(orderRoom), deep, slices.Clone(firstRoom), slices.Clone(boxRoom), slices.Clone(atRoom), slices.Clone(shuttleRoom)}
		}
		kept := rooms()
		call := func() []any {
			results := everything(api.BoxLoom{Boxes: boxes, At: at, Shuttles: shuttles}, picks, order, groups)
			if now := rooms(); !reflect.DeepEqual(kept, now) {
				t.Fatal(l, "was changed:", kept, now)
			}
			return results
		}
		before, again := call(), call()
		if !reflect.DeepEqual(before, again) {
			t.Fatal(l, before, again)
		}
		spoil(before)
		if last := call(); !reflect.DeepEqual(again, last) {
			t.Fatal(l, again, last)
		}
	}
}

// P1, R2: no arguments lead to a panic, and results with an error are zero values, but for the number of a pick or of a colour.
func TestAnyArguments(t *testing.T) {
	odd := []int{-1 << 63, -1, 0, 1, 2, 4, 5, 9, 10, 1000, 1001, 1<<63 - 1}
	zero := func(e api.Errno, results ...any) {
		t.Helper()
		for _, r := range results {
			v := reflect.ValueOf(r)
			if e != api.OK && !v.IsZero() && !(v.Kind() == reflect.Slice && v.Len() == 0) {
				t.Error("a result beside the error", e, r)
			}
		}
	}
	try := func(l api.BoxLoom, picks []api.BoxPick, order []int) {
		t.Helper()
		colours, after, moves, at, e := box.Throw(l, picks)
		zero(e, colours, after, moves)
		if e != api.ErrState {
			zero(e, at)
		}
		can, e := box.Can(l)
		zero(e, can)
		fewest, moves, at, e := box.Fewest(l, order)
		zero(e, fewest, moves)
		if e != api.ErrState {
			zero(e, at)
		}
		best, moves, e := box.Groups(l, [][]int{order, order})
		zero(e, best, moves)
		left, at, e := box.Yarn(l, picks)
		zero(e, left)
		if e != api.ErrState {
			zero(e, at)
		}
		possibly, surely, e := box.Runs(l, picks)
		zero(e, possibly, surely)
		rounds, e := box.Round(l, picks)
		zero(e, rounds)
	}
	for _, a := range odd {
		for _, b := range odd {
			for _, l := range []api.BoxLoom{
				example(),
				loom(a, b, shuttle(0, 0, 0, 0, 0)),
				loom(2, 2, shuttle(a, b, 0, 0, 0)),
				loom(2, 2, shuttle(0, a, b, 0, 0)),
				loom(2, 2, shuttle(0, 0, 0, a, b)),
				{Boxes: []int{a, b}, At: []int{b, a}, Shuttles: example().Shuttles},
				{Boxes: []int{a}, At: []int{b}, Shuttles: example().Shuttles},
				{At: []int{a, b}, Shuttles: example().Shuttles},
			} {
				try(l, []api.BoxPick{pick(a, b)}, []int{a, b})
				try(l, []api.BoxPick{pick(0, 0), pick(b, a)}, []int{3, a, b})
			}
		}
	}
}

// R3: a nil list and an empty one are the same.
func TestNilIsEmpty(t *testing.T) {
	for _, l := range []api.BoxLoom{{}, {Boxes: []int{}, At: []int{}, Shuttles: []api.BoxShuttle{}}} {
		if e := box.Check(l); e != api.ErrForm {
			t.Error(e)
		}
	}
	for _, picks := range [][]api.BoxPick{nil, {}} {
		_, after, _, _, e := box.Throw(example(), picks)
		if _, f := box.Round(example(), picks); e != api.OK || f != api.ErrNone || !same(after, example()) {
			t.Error(after, e, f)
		}
	}
	for _, groups := range [][][]int{nil, {}, {nil}, {{}}} {
		if order, moves, e := box.Groups(example(), groups); e != api.OK || len(order) != 0 || moves != 0 {
			t.Error(groups, order, moves, e)
		}
	}
}
