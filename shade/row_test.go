package shade_test

import (
	"slices"
	"testing"

	"griffe/api"
	"griffe/shade"
)

// seamsOf returns how many seams an order of lots has.
func seamsOf(l []api.ShadeLot, tolerance int, row []int) int {
	seams := 0
	for at := 1; at < len(row); at++ {
		if !areAlike(l, tolerance, row[at-1], row[at]) {
			seams++
		}
	}
	return seams
}

// naiveRow returns the smallest of all orders with the fewest seams, by all orders from the smallest one on.
func naiveRow(l []api.ShadeLot, tolerance int) (best []int, fewest int) {
	fewest = far
	var lay func(row []int)
	lay = func(row []int) {
		if len(row) == len(l) {
			if seams := seamsOf(l, tolerance, row); seams < fewest {
				best, fewest = slices.Clone(row), seams
			}
		}
		for n := range l {
			if !slices.Contains(row, n) {
				lay(append(row, n))
			}
		}
	}
	lay(nil)
	return best, fewest
}

// P9.7, P9.15: rows of which the order is known.
func TestRow(t *testing.T) {
	all := []int{0, 1, 2, 3, 4, 5, 6, 7, 8, 9, 10, 11}
	for _, c := range []struct {
		lots      []api.ShadeLot
		tolerance int
		row       []int
		seams     int
	}{
		{example(), 20, []int{0, 1, 2, 3}, 1},
		{example(), 25, []int{0, 1, 2, 3}, 0},
		{example(), 30, []int{0, 1, 2, 3}, 0},
		{example(), 22, []int{0, 1, 2, 3}, 0},
		{example(), 21, []int{0, 1, 2, 3}, 1},
		{example(), 0, []int{0, 1, 2, 3}, 3},
		{slices.Concat(example()[2:3], example()[:2], example()[3:]), 20, []int{0, 2, 1, 3}, 1},
		{slices.Concat(example()[:1], example()[2:], example()[1:2]), 22, []int{0, 3, 1, 2}, 0},
		{lots(1, 0, 0, 1, 1, 10, 10, 1, 1, 5, 5, 1), 5, []int{0, 2, 1}, 0},
		{lots(1, 5, 5, 1, 1, 0, 0, 1, 1, 10, 10, 1), 5, []int{1, 0, 2}, 0},
		{lots(1, 5, 5, 1, 1, 0, 0, 1, 1, 10, 10, 1), 4, []int{0, 1, 2}, 2},
		{lots(1, 5, 5, 1, 2, 5, 5, 1, 1, 5, 5, 1, 2, 5, 5, 1), 1000, []int{0, 2, 1, 3}, 1},
		{lots(1, 5, 5, 1, 1, 0, 9, 1, 1, 5, 5, 1), 8, []int{0, 2, 1}, 1},
		{lots(1, 0, 9, 1, 1, 0, 9, 1), 8, []int{0, 1}, 1},
		{lots(1, 0, 9, 1), 0, []int{0}, 0},
		{nil, 0, nil, 0},
		{full(), 1000, all, 0},
		{full(), 999, all, 11},
	} {
		if row, seams, e := shade.Row(c.lots, c.tolerance); !slices.Equal(row, c.row) || seams != c.seams || e != api.OK {
			t.Error(c.lots, c.tolerance, row, seams, e)
		}
	}
}

// P9.7: the smallest of all orders with the fewest seams.
func TestRowIsSmallest(t *testing.T) {
	r := source(7)
	var seen [6]int
	for many := 0; many < 600; many++ {
		l, tolerance := anyLots(r, upTo(r, 0, 6), upTo(r, 1, 3), 20, 6), upTo(r, 0, 12)
		if many%60 == 0 {
			l = anyLots(r, 7, 2, 20, 4)
		}
		row, seams, e := shade.Row(l, tolerance)
		best, fewest := naiveRow(l, tolerance)
		if !slices.Equal(row, best) || seams != fewest || e != api.OK {
			t.Fatal(l, tolerance, row, seams, e, best, fewest)
		}
		seen[min(5, seams)]++
	}
	if slices.Min(seen[:]) < 10 {
		t.Error("too few samples:", seen)
	}
}

// P9.7, P9.14, P9.15: rows of as many lots as there can be have as many seams as is said, at most as many as there are cloths, less one, and no more with a greater tolerance.
func TestLongRows(t *testing.T) {
	r := source(8)
	for many := 0; many < 60; many++ {
		l, tolerance := anyLots(r, upTo(r, 10, 12), upTo(r, 1, 3), 100, 10), upTo(r, 10, 40)
		row, seams, e := shade.Row(l, tolerance)
		sorted := slices.Clone(row)
		slices.Sort(sorted)
		if len(row) != len(l) || len(slices.Compact(sorted)) != len(l) || seamsOf(l, tolerance, row) != seams || e != api.OK {
			t.Fatal(l, tolerance, row, seams, e)
		}
		cloths, e := shade.Cloths(l, tolerance)
		if e != api.OK || seams > len(cloths)-1 {
			t.Fatal(l, tolerance, row, seams, cloths, e)
		}
		if _, wider, e := shade.Row(l, tolerance+upTo(r, 1, 9)); e != api.OK || wider > seams {
			t.Fatal(l, tolerance, row, seams, wider, e)
		}
	}
}
