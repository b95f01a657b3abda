package seam_test

import (
	"math/rand/v2"
	"slices"
	"testing"

	"griffe/api"
	"griffe/seam"
)

// lists returns all lists of so many edges from 1 to a last one, in their order, the smallest one first.
func lists(last, many int) [][]int {
	all := [][]int{nil}
	for range many {
		var longer [][]int
		for _, list := range all {
			from := 1
			if len(list) > 0 {
				from = list[len(list)-1] + 1
			}
			for edge := from; edge <= last; edge++ {
				longer = append(longer, append(slices.Clone(list), edge))
			}
		}
		all = longer
	}
	return all
}

// matches tells whether a truth is left with marks, and the lengths surely match.
func matches(a, b []api.SeamPart, marks []int, tolerance int) bool {
	spans, ok := bounds(a, b, marks)
	return ok && !slices.ContainsFunc(spans, func(s api.Span) bool { return parted(s) > tolerance })
}

// naiveMarks returns the first list of at most so many marks with which two lengths surely match.
func naiveMarks(a, b []api.SeamPart, tolerance, most int) ([]int, bool) {
	picks := len(spread(a))
	for many := range min(most, picks) + 1 {
		for _, marks := range lists(picks, many) {
			if matches(a, b, marks, tolerance) {
				return marks, true
			}
		}
	}
	return nil, false
}

// alike returns two lengths of so many picks of about the same widths, often with room around the other one's.
func alike(r *rand.Rand, picks int) (a, b []api.SeamPart) {
	a, b = anyLength(r, picks, 6, 2), anyLength(r, picks, 6, 3)
	if r.IntN(3) > 0 {
		b = slices.Clone(a)
		for i, part := range b {
			b[i].Width = span(max(1, part.Width.Low-r.IntN(3)), part.Width.High+r.IntN(2))
		}
	}
	return a, b
}

// P7.6: the examples, and lengths that match at once or never.
func TestMarks(t *testing.T) {
	a, b := exampleA(), exampleB()
	loose, tight := length(6, 9, 11), length(6, 10, 10)
	for name, c := range map[string]struct {
		a, b      []api.SeamPart
		tolerance int
		marks     []int
		e         api.Errno
	}{
		"39":                        {a, b, 39, nil, api.ErrNone},
		"40":                        {a, b, 40, []int{3}, api.OK},
		"49":                        {a, b, 49, []int{3}, api.OK},
		"50":                        {a, b, 50, nil, api.OK},
		"all of it":                 {a, b, 2000000, nil, api.OK},
		"turned over":               {b, a, 40, []int{3}, api.OK},
		"no room":                   {tight, tight, 0, nil, api.OK},
		"a mark at each edge":       {loose, tight, 0, []int{1, 2, 3, 4, 5, 6}, api.OK},
		"the smallest list":         {loose, tight, 1, []int{2, 5}, api.OK},
		"a smaller one of one mark": {loose, tight, 2, []int{4}, api.OK},
		"a smaller one of less":     {loose, tight, 5, []int{1}, api.OK},
		"none":                      {loose, tight, 6, nil, api.OK},
		"never":                     {length(3, 1, 2), length(3, 4, 5), 8, nil, api.ErrNone},
		"never, but within":         {length(3, 1, 2), length(3, 4, 5), 12, nil, api.OK},
		"one pick":                  {length(1, 5, 9), length(1, 5, 5), 3, []int{1}, api.OK},
		"one pick and no truth":     {length(1, 6, 9), length(1, 5, 5), 3, nil, api.ErrNone},
		"a mark that cannot be":     {length(1, 5, 7, 1, 3, 5), length(1, 3, 3, 1, 6, 6), 3, []int{2}, api.OK},
		"below":                     {a, b, -1, nil, api.ErrRange},
		"above":                     {a, b, 2000001, nil, api.ErrRange},
		"far":                       {a, b, far, nil, api.ErrRange},
		"deep":                      {a, b, deep, nil, api.ErrRange},
	} {
		if marks, e := seam.Marks(c.a, c.b, c.tolerance); e != c.e || !slices.Equal(marks, c.marks) {
			t.Error(name, marks, e)
		}
	}
}

// P7.6, P7.11: the marks against all lists of marks.
func TestMarksOfAllLists(t *testing.T) {
	r := source(21)
	counts, none := map[int]int{}, 0
	for range 1500 {
		a, b := alike(r, 1+r.IntN(8))
		tolerance := r.IntN(8)
		want, ok := naiveMarks(a, b, tolerance, 8)
		marks, e := seam.Marks(a, b, tolerance)
		if !ok {
			none++
			if e != api.ErrNone {
				t.Fatal(a, b, tolerance, marks, e)
			}
			zero(t, e, marks)
			continue
		}
		counts[len(want)]++
		if e != api.OK || !slices.Equal(marks, want) {
			t.Fatal(a, b, tolerance, marks, e, want)
		}
	}
	if none < 100 || counts[0] < 100 || counts[1] < 100 || counts[2] < 50 || counts[3] < 20 || counts[4] < 5 {
		t.Error("too few samples of a kind", none, counts)
	}
}

// P7.6, P7.11: the marks of longer lengths against all lists of few marks.
func TestMarksOfMorePicks(t *testing.T) {
	r := source(22)
	counts := map[int]int{}
	for range 150 {
		a, b := alike(r, 9+r.IntN(16))
		tolerance := 2 + r.IntN(12)
		marks, e := seam.Marks(a, b, tolerance)
		want, ok := naiveMarks(a, b, tolerance, 3)
		if ok {
			counts[len(want)]++
		}
		if ok && (e != api.OK || !slices.Equal(marks, want)) || !ok && e == api.OK && (len(marks) <= 3 || !matches(a, b, marks, tolerance)) {
			t.Fatal(a, b, tolerance, marks, e, want)
		}
	}
	if counts[0] < 5 || counts[1] < 10 || counts[2] < 10 || counts[3] < 5 {
		t.Error("too few samples of a kind", counts)
	}
}

// P7.6, P7.11: picks that can be one wider or narrower; of as few marks as the distance between them allows, each comes as early as it can.
func TestMarksOfAllPicks(t *testing.T) {
	for _, picks := range []int{1, 2, 99, 199, 200} {
		for _, tolerance := range []int{0, 1, 2, 7, 49, 98, 199, 200} {
			a, b := length(picks, 9, 11), length(picks, 10, 10)
			many := max(0, (picks-tolerance+2*tolerance)/(2*tolerance+1))
			want, last := []int{}, 0
			for i := range many {
				last = max(last+1, picks-tolerance-(many-1-i)*(2*tolerance+1))
				want = append(want, last)
			}
			marks, e := seam.Marks(a, b, tolerance)
			if e != api.OK || !slices.Equal(marks, want) {
				t.Error(picks, tolerance, marks, e, want)
			}
			if edge, apart, e := seam.Part(a, b, marks, tolerance); e != api.ErrNone {
				t.Error(picks, tolerance, edge, apart, e)
			}
		}
	}
}

// picked returns the picks of a length from one edge to another one, each as a part.
func picked(l []api.SeamPart, from, to int) []api.SeamPart {
	var parts []api.SeamPart
	for _, s := range spread(l)[from:to] {
		parts = append(parts, api.SeamPart{Picks: 1, Width: s})
	}
	return parts
}

// bestMarks returns the best list of marks after each edge, by the best ones after each later edge, as if the lengths began there.
func bestMarks(a, b []api.SeamPart, tolerance int) (after [][]int, can []bool) {
	picks := len(spread(a))
	after, can = make([][]int, picks+1), make([]bool, picks+1)
	better := func(from int, marks []int) bool {
		if !can[from] || len(marks) != len(after[from]) {
			return !can[from] || len(marks) < len(after[from])
		}
		return slices.Compare(marks, after[from]) < 0
	}
	for from := picks; from >= 0; from-- {
		if matches(picked(a, from, picks), picked(b, from, picks), nil, tolerance) {
			can[from] = true
			continue
		}
		for to := from + 1; to <= picks; to++ {
			marks := append([]int{to}, after[to]...)
			if can[to] && better(from, marks) && matches(picked(a, from, to), picked(b, from, to), []int{to - from}, tolerance) {
				after[from], can[from] = marks, true
			}
		}
	}
	return after, can
}

// P7.6, P7.11: the marks of lengths that need many.
func TestManyMarks(t *testing.T) {
	r := source(24)
	counts, none := [5]int{}, 0
	for range 120 {
		a, b := alike(r, 20+r.IntN(41))
		tolerance := r.IntN(8)
		after, can := bestMarks(a, b, tolerance)
		marks, e := seam.Marks(a, b, tolerance)
		if !can[0] {
			none++
			if e != api.ErrNone {
				t.Fatal(a, b, tolerance, marks, e)
			}
			continue
		}
		counts[min(4, len(marks)/4)]++
		if e != api.OK || !slices.Equal(marks, after[0]) {
			t.Fatal(a, b, tolerance, marks, e, after[0])
		}
	}
	if none < 10 || slices.Min(counts[:]) < 3 {
		t.Error("too few samples of a kind", none, counts)
	}
}

// P7.11, P7.12: lengths match with the marks, not with one of them less, and a greater tolerance needs no more.
func TestMarksMatch(t *testing.T) {
	r := source(23)
	some := 0
	for range 60 {
		a, b := near(r)
		least, e := seam.Least(a, b, nil)
		if e != api.OK {
			t.Fatal(a, b, e)
		}
		many := len(spread(a)) + 1
		for _, tolerance := range []int{0, least / 9, least / 3, least / 2, least - 1, least, least + 1} {
			marks, e := seam.Marks(a, b, max(0, tolerance))
			if e != api.OK || len(marks) > many {
				t.Fatal(a, b, tolerance, marks, e)
			}
			many = len(marks)
			if !matches(a, b, marks, max(0, tolerance)) {
				t.Fatal(a, b, tolerance, marks)
			}
			for range min(3, many) {
				i := r.IntN(many)
				if less := slices.Delete(slices.Clone(marks), i, i+1); matches(a, b, less, max(0, tolerance)) {
					t.Fatal(a, b, tolerance, marks, less)
				}
			}
			if tolerance >= least && many != 0 {
				t.Fatal(a, b, tolerance, marks)
			}
			if many > 1 {
				some++
			}
		}
	}
	if some < 60 {
		t.Error("too few samples with marks", some)
	}
}
