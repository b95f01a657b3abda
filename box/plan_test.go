package box_test

import (
	"fmt"
	"math/rand/v2"
	"slices"
	"testing"

	"griffe/api"
	"griffe/box"
)

// tried tries all picks: the smallest ones with the fewest box moves that weave an order, and how much of it can be woven.
func tried(l api.BoxLoom, order []int) (picks []api.BoxPick, moves, woven int, ok bool) {
	if len(order) == 0 {
		return nil, 0, 0, true
	}
	for _, p := range every(l) {
		after, s, n, can := naive(l, p)
		if !can || l.Shuttles[s].Colour != order[0] {
			continue
		}
		rest, more, further, all := tried(after, order[1:])
		woven = max(woven, further+1)
		if all && (!ok || n+more < moves) {
			picks, moves, ok = append([]api.BoxPick{p}, rest...), n+more, true
		}
	}
	return picks, moves, woven, ok
}

// counted returns the fewest box moves that weave an order, colour by colour over all looms that there can be.
func counted(l api.BoxLoom, order []int) (moves int, ok bool) {
	type way struct {
		l     api.BoxLoom
		moves int
	}
	ways := []way{{l, 0}}
	for _, colour := range order {
		next := map[string]way{}
		for _, w := range ways {
			for _, p := range every(w.l) {
				after, s, n, can := naive(w.l, p)
				if !can || l.Shuttles[s].Colour != colour {
					continue
				}
				key := fmt.Sprint(after.At, places(after))
				if best, known := next[key]; !known || w.moves+n < best.moves {
					next[key] = way{after, w.moves + n}
				}
			}
		}
		ways = nil
		for _, w := range next {
			ways = append(ways, w)
		}
	}
	for _, w := range ways {
		if !ok || w.moves < moves {
			moves, ok = w.moves, true
		}
	}
	return moves, ok
}

// colours returns the colours of so many random picks, or of fewer if no more can be thrown.
func colours(r *rand.Rand, l api.BoxLoom, most int) []int {
	_, _, thrown := walk(r, l, most)
	var order []int
	for _, s := range thrown {
		order = append(order, l.Shuttles[s].Colour)
	}
	return order
}

// P4.4: the examples, and the smallest of several lists of picks.
func TestFewest(t *testing.T) {
	one := loom(2, 3, shuttle(4, 0, 1, 0, 0))
	one.At = []int{1, 1}
	for _, c := range []struct {
		l     api.BoxLoom
		order []int
		picks []api.BoxPick
		moves int
	}{
		{example(), []int{3, 7, 5}, []api.BoxPick{pick(0, 0), pick(0, 1), pick(1, 1)}, 2},
		{example(), []int{3, 3, 3}, make([]api.BoxPick, 3), 0},
		{example(), slices.Repeat([]int{3}, 24), make([]api.BoxPick, 24), 0},
		{example(), []int{5}, []api.BoxPick{pick(1, 0)}, 1},
		{example(), nil, nil, 0},
		{example(), []int{}, nil, 0},
		{one, []int{4, 4}, []api.BoxPick{pick(1, 1), pick(1, 1)}, 0},
		// The shuttle 0 is nearer, but then no box is left for the shuttle 2.
		{loom(2, 2, shuttle(1, 0, 0, 0, 0), shuttle(1, 0, 1, 0, 0), shuttle(2, 1, 1, 0, 0)), []int{1, 2}, []api.BoxPick{pick(0, 0), pick(0, 1)}, 1},
		{loom(1, 3, shuttle(1, 1, 2, 0, 0)), []int{1, 1}, []api.BoxPick{pick(0, 2), pick(0, 2)}, 2},
		{loom(3, 3, shuttle(1, 0, 1, 0, 0), shuttle(1, 1, 1, 0, 0)), []int{1}, []api.BoxPick{pick(0, 1)}, 1},
	} {
		picks, moves, at, e := box.Fewest(c.l, c.order)
		if e != api.OK || !slices.Equal(picks, c.picks) || moves != c.moves || at != 0 {
			t.Error(c, picks, moves, at, e)
		}
	}
}

// P4.4: the errors, in their order, and the first colour up to which an order cannot be woven.
func TestFewestErrors(t *testing.T) {
	for _, c := range []struct {
		order []int
		at    int
		e     api.Errno
	}{
		{make([]int, 25), 0, api.ErrLong},
		{slices.Repeat([]int{-1}, 25), 0, api.ErrLong},
		{[]int{-1}, 0, api.ErrArg},
		{[]int{10}, 0, api.ErrArg},
		{[]int{3, 5, 1<<63 - 1}, 0, api.ErrArg},
		{append(make([]int, 23), -1<<63), 0, api.ErrArg},
		{[]int{3, 5}, 1, api.ErrState},
		{[]int{3, 5, 7}, 1, api.ErrState},
		{[]int{7}, 0, api.ErrState},
		{[]int{0}, 0, api.ErrState},
		{[]int{3, 7, 5, 9}, 3, api.ErrState},
		{append(slices.Repeat([]int{3}, 23), 8), 23, api.ErrState},
		{append(slices.Repeat([]int{3}, 22), 8, 3), 22, api.ErrState},
	} {
		picks, moves, at, e := box.Fewest(example(), c.order)
		if e != c.e || len(picks) != 0 || moves != 0 || at != c.at {
			t.Error(c, picks, moves, at, e)
		}
	}
}

// P4.4, P4.10: all picks tried, for short orders, some of which cannot be woven.
func TestFewestByTrying(t *testing.T) {
	r := source(9)
	unwoven := 0
	for _, l := range samples(r, 600, 3) {
		order := colours(r, l, r.IntN(6))
		if r.IntN(4) == 0 && len(order) > 0 {
			order[r.IntN(len(order))] = r.IntN(6)
		}
		want, n, woven, ok := tried(l, order)
		picks, moves, at, e := box.Fewest(l, order)
		if ok && (e != api.OK || !slices.Equal(picks, want) || moves != n || at != 0) {
			t.Fatal(l, order, picks, moves, at, e, want, n)
		}
		if !ok && (e != api.ErrState || len(picks) != 0 || moves != 0 || at != woven) {
			t.Fatal(l, order, picks, moves, at, e, woven)
		}
		if !ok {
			unwoven++
		}
	}
	if unwoven < 20 {
		t.Error("only", unwoven)
	}
}

// P4.4, P4.10: long orders: the picks weave them, none do so with fewer box moves, and no smaller ones with as many.
func TestFewestOfLongOrders(t *testing.T) {
	r := source(10)
	for _, l := range samples(r, 12, 4) {
		order := colours(r, l, 24)
		picks, moves, _, e := box.Fewest(l, order)
		woven, _, n, _, f := box.Throw(l, picks)
		if want, _ := counted(l, order); e != api.OK || f != api.OK || !slices.Equal(woven, order) || n != moves || moves != want {
			t.Fatal(l, order, picks, moves, e, woven, n, f, want)
		}
		now, so := l, 0
		for at, p := range picks {
			for _, other := range every(l) {
				if other == p {
					break
				}
				after, s, n, can := naive(now, other)
				if !can || l.Shuttles[s].Colour != order[at] {
					continue
				}
				if rest, ok := counted(after, order[at+1:]); ok && so+n+rest <= moves {
					t.Fatal(l, order, picks, "smaller:", at, other)
				}
			}
			after, _, n, _ := naive(now, p)
			now, so = after, so+n
		}
	}
}

// P4.10: a longer order needs no fewer box moves, and with one box more on a side no more are needed.
func TestFewestGrows(t *testing.T) {
	r := source(11)
	for _, l := range samples(r, 200, 4) {
		order := colours(r, l, 12)
		_, moves, _, e := box.Fewest(l, order)
		before := 0
		for many := range len(order) {
			_, n, _, f := box.Fewest(l, order[:many])
			if e != api.OK || f != api.OK || n < before || n > moves {
				t.Fatal(l, order, many, n, f, moves, e)
			}
			before = n
		}
		for side := range 2 {
			more := l
			more.Boxes = slices.Clone(l.Boxes)
			more.Boxes[side]++
			if more.Boxes[side] > 4 {
				continue
			}
			if _, n, _, f := box.Fewest(more, order); f != api.OK || n > moves {
				t.Fatal(l, order, side, n, f, moves)
			}
		}
	}
}

// orders returns all orders of the colours of groups.
func orders(groups [][]int) [][]int {
	if len(groups) == 0 {
		return [][]int{nil}
	}
	if len(groups[0]) == 0 {
		return orders(groups[1:])
	}
	var l [][]int
	for at, colour := range groups[0] {
		rest := slices.Clone(groups)
		rest[0] = slices.Concat(groups[0][:at], groups[0][at+1:])
		for _, order := range orders(rest) {
			l = append(l, append([]int{colour}, order...))
		}
	}
	return l
}

// grouped returns groups of the colours of an order, each group in any order, as far as there is room for them.
func grouped(r *rand.Rand, order []int) [][]int {
	groups := [][]int{nil}
	for _, colour := range order {
		last := len(groups) - 1
		if len(groups[last]) == 3 && len(groups) == 8 {
			break
		}
		if len(groups[last]) == 3 || len(groups) < 8 && r.IntN(3) == 0 {
			groups = append(groups, nil)
			last++
		}
		groups[last] = slices.Insert(groups[last], r.IntN(len(groups[last])+1), colour)
	}
	return groups
}

// P4.5: the examples, empty groups, and groups that have a colour twice.
func TestGroups(t *testing.T) {
	for _, c := range []struct {
		l      api.BoxLoom
		groups [][]int
		order  []int
		moves  int
	}{
		{example(), [][]int{{3, 7}, {5}}, []int{3, 7, 5}, 2},
		{example(), [][]int{{7, 3}, {5}}, []int{3, 7, 5}, 2},
		{example(), [][]int{{5, 7, 3}}, []int{3, 7, 5}, 2},
		{example(), nil, nil, 0},
		{example(), [][]int{{}, nil}, nil, 0},
		{example(), [][]int{{}, {3}, nil, {3, 3}, {}}, []int{3, 3, 3}, 0},
		{example(), slices.Repeat([][]int{{3, 3, 3}}, 8), slices.Repeat([]int{3}, 24), 0},
		{loom(2, 2, shuttle(2, 0, 0, 0, 0), shuttle(1, 0, 1, 0, 0)), [][]int{{1, 2}}, []int{2, 1}, 2},
		{loom(1, 2, shuttle(2, 1, 0, 0, 0), shuttle(1, 1, 1, 0, 0)), [][]int{{2, 1, 2}, {1}}, []int{2, 2, 1, 1}, 1},
		{loom(1, 2, shuttle(2, 1, 0, 0, 0), shuttle(1, 1, 1, 0, 0)), [][]int{{2}, {1, 2}, {1}}, []int{2, 2, 1, 1}, 1},
	} {
		order, moves, e := box.Groups(c.l, c.groups)
		if e != api.OK || !slices.Equal(order, c.order) || moves != c.moves {
			t.Error(c, order, moves, e)
		}
	}
}

// P4.5: the errors, in their order.
func TestGroupsErrors(t *testing.T) {
	for _, c := range []struct {
		groups [][]int
		e      api.Errno
	}{
		{make([][]int, 9), api.ErrLong},
		{slices.Repeat([][]int{{10}}, 9), api.ErrLong},
		{[][]int{{3, 3, 3, 3}}, api.ErrLong},
		{[][]int{{10}, {3, 3, 3, 3}}, api.ErrLong},
		{[][]int{{3, -1, 3}}, api.ErrArg},
		{[][]int{{3}, {}, {10}}, api.ErrArg},
		{[][]int{{-1 << 63}, {1<<63 - 1}}, api.ErrArg},
		{[][]int{{7}, {10}}, api.ErrArg},
		{[][]int{{3, 5}, {7}}, api.ErrState},
		{[][]int{{7}, {3}}, api.ErrState},
		{[][]int{{3}, {0}}, api.ErrState},
	} {
		if order, moves, e := box.Groups(example(), c.groups); e != c.e || len(order) != 0 || moves != 0 {
			t.Error(c, order, moves, e)
		}
	}
}

// P4.5, P4.11: all orders of the colours tried: the best one, of several the smallest one.
func TestGroupsByTrying(t *testing.T) {
	r := source(12)
	for _, l := range samples(r, 400, 3) {
		groups := grouped(r, colours(r, l, r.IntN(6)))
		if r.IntN(6) == 0 {
			groups = append(groups, []int{r.IntN(6)})
		}
		var want []int
		fewest, found := 0, false
		for _, order := range orders(groups) {
			_, n, _, ok := tried(l, order)
			if ok && (!found || n < fewest || n == fewest && slices.Compare(order, want) < 0) {
				want, fewest, found = order, n, true
			}
		}
		order, moves, e := box.Groups(l, groups)
		if !found && (e != api.ErrState || len(order) != 0 || moves != 0) {
			t.Fatal(l, groups, order, moves, e)
		}
		if found && (e != api.OK || !slices.Equal(order, want) || moves != fewest) {
			t.Fatal(l, groups, order, moves, e, want, fewest)
		}
	}
}

// P4.11: as many box moves as Fewest has for the order; with groups of one colour the order itself; with two groups as one no more.
func TestGroupsOfLongOrders(t *testing.T) {
	r := source(13)
	for _, l := range samples(r, 60, 4) {
		from := colours(r, l, 18)
		groups := grouped(r, from)
		many := len(slices.Concat(groups...))
		order, moves, e := box.Groups(l, groups)
		if _, n, _, f := box.Fewest(l, order); e != api.OK || f != api.OK || n != moves || len(order) != many {
			t.Fatal(l, groups, order, moves, e, n, f)
		}
		rest := order
		for _, group := range groups {
			if !slices.Equal(slices.Sorted(slices.Values(group)), slices.Sorted(slices.Values(rest[:len(group)]))) {
				t.Fatal(l, groups, order)
			}
			rest = rest[len(group):]
		}
		for at := range groups[1:] {
			both := slices.Concat(groups[at], groups[at+1])
			if len(both) > 3 {
				continue
			}
			joined := slices.Concat(groups[:at], [][]int{both}, groups[at+2:])
			if _, n, f := box.Groups(l, joined); f != api.OK || n > moves {
				t.Fatal(l, groups, joined, n, f, moves)
			}
		}
		few := from[:min(8, len(from))]
		again, n, f := box.Groups(l, slices.Collect(slices.Chunk(few, 1)))
		if _, m, _, _ := box.Fewest(l, few); f != api.OK || !slices.Equal(again, few) || n != m {
			t.Fatal(l, few, again, n, f, m)
		}
	}
}
