package seam_test

import (
	"math/rand/v2"
	"reflect"
	"slices"
	"testing"

	"griffe/api"
	"griffe/seam"
)

// The numbers that lie farthest out.
const far, deep = 1<<63 - 1, -1 << 63

func span(low, high int) api.Span { return api.Span{Low: low, High: high} }

// length returns a length with the parts: Picks, Low, High, and so on.
func length(numbers ...int) []api.SeamPart {
	var l []api.SeamPart
	for part := range slices.Chunk(numbers, 3) {
		l = append(l, api.SeamPart{Picks: part[0], Width: span(part[1], part[2])})
	}
	return l
}

// The lengths of the chapter's examples.
func exampleA() []api.SeamPart { return length(2, 100, 110, 1, 50, 50) }

func exampleB() []api.SeamPart { return length(3, 90, 100) }

func source(seed uint64) *rand.Rand { return rand.New(rand.NewPCG(seed, 70)) }

// upTo returns an integer from low to high, which is often one of both ends.
func upTo(r *rand.Rand, low, high int) int {
	switch r.IntN(8) {
	case 0:
		return low
	case 1:
		return high
	}
	return low + r.IntN(high-low+1)
}

// anyLength returns a length of so many picks, in parts of any size, with widths that have up to so much room.
func anyLength(r *rand.Rand, picks, widest, room int) []api.SeamPart {
	var l []api.SeamPart
	for picks > 0 {
		many := 1 + r.IntN(picks)
		if len(l) == api.MaxSeamParts-1 {
			many = picks
		}
		low := upTo(r, 1, widest)
		l = append(l, api.SeamPart{Picks: many, Width: span(low, min(widest, low+r.IntN(room+1)))})
		picks -= many
	}
	return l
}

// anyMarks returns some of the edges from 1 on, in their order.
func anyMarks(r *rand.Rand, picks, many int) []int {
	marks := r.Perm(picks)[:min(many, picks)]
	for i := range marks {
		marks[i]++
	}
	slices.Sort(marks)
	return marks
}

// spread returns how wide each pick of a length can be.
func spread(l []api.SeamPart) []api.Span {
	var all []api.Span
	for _, part := range l {
		all = append(all, slices.Repeat([]api.Span{part.Width}, part.Picks)...)
	}
	return all
}

// longest returns a length of as many parts and picks, and as wide ones, as there can be.
func longest() []api.SeamPart {
	l := slices.Repeat(length(1, 10000, 10000), 11)
	return append(l, length(189, 1, 10000)...)
}

// invalidLengths is lengths with their errors.
func invalidLengths() map[string]struct {
	l []api.SeamPart
	e api.Errno
} {
	return map[string]struct {
		l []api.SeamPart
		e api.Errno
	}{
		"thirteen parts":           {slices.Repeat(length(1, 5, 5), 13), api.ErrLong},
		"thirteen parts and worse": {slices.Repeat(length(0, 0, 0), 13), api.ErrLong},
		"thirteen large parts":     {slices.Repeat(length(200, 5, 5), 13), api.ErrLong},
		"nil":                      {nil, api.ErrNone},
		"no part":                  {[]api.SeamPart{}, api.ErrNone},
		"no picks":                 {length(0, 5, 5), api.ErrArg},
		"picks below":              {length(-1, 5, 5), api.ErrArg},
		"201 picks":                {length(201, 5, 5), api.ErrArg},
		"no width":                 {length(1, 0, 5), api.ErrArg},
		"a width below":            {length(1, -5, 5), api.ErrArg},
		"a large width":            {length(1, 5, 10001), api.ErrArg},
		"only large widths":        {length(1, 10001, 10001), api.ErrArg},
		"a width turned over":      {length(1, 6, 5), api.ErrArg},
		"the last part":            {length(1, 5, 6, 2, 5, 6, 0, 5, 6), api.ErrArg},
		"the last width":           {length(1, 5, 6, 2, 5, 6, 1, 7, 6), api.ErrArg},
		"wrong before full":        {length(200, 5, 6, 200, 5, 6, 1, 0, 6), api.ErrArg},
		"201 picks together":       {length(200, 5, 6, 1, 5, 6), api.ErrFull},
		"far more picks together":  {slices.Repeat(length(200, 5, 6), 12), api.ErrFull},
		"far":                      {length(far, far, far), api.ErrArg},
		"deep":                     {length(deep, deep, deep), api.ErrArg},
		"far and far":              {length(far, 1, 1, far, 1, 1), api.ErrArg},
		"from deep to far":         {length(1, deep, far), api.ErrArg},
	}
}

// zero reports results that are beside an error and are not zero values.
func zero(t *testing.T, e api.Errno, results ...any) {
	t.Helper()
	for _, r := range results {
		v := reflect.ValueOf(r)
		if e != api.OK && !v.IsZero() && !(v.Kind() == reflect.Slice && v.Len() == 0) {
			t.Error("a result beside the error", e, r)
		}
	}
}

// P7.1: lengths up to their limits, and the errors in their order, which Places has too.
func TestCheck(t *testing.T) {
	for _, l := range [][]api.SeamPart{exampleA(), exampleB(), longest(), length(1, 1, 1), length(200, 1, 10000), slices.Repeat(length(16, 3, 4), 12)} {
		if e := seam.Check(l); e != api.OK {
			t.Error(l, e)
		}
	}
	for name, c := range invalidLengths() {
		if e := seam.Check(c.l); e != c.e {
			t.Error(name, e)
		}
		places, e := seam.Places(c.l)
		if e != c.e {
			t.Error(name, "Places", e)
		}
		zero(t, e, places)
	}
}

// P7.2: the example, and lengths at their limits.
func TestPlaces(t *testing.T) {
	for name, c := range map[string]struct {
		l      []api.SeamPart
		places []api.Span
	}{
		"a":            {exampleA(), []api.Span{span(0, 0), span(100, 110), span(200, 220), span(250, 270)}},
		"b":            {exampleB(), []api.Span{span(0, 0), span(90, 100), span(180, 200), span(270, 300)}},
		"one pick":     {length(1, 1, 1), []api.Span{span(0, 0), span(1, 1)}},
		"a wide pick":  {length(1, 1, 10000), []api.Span{span(0, 0), span(1, 10000)}},
		"single parts": {length(1, 2, 3, 1, 7, 7, 1, 1, 9), []api.Span{span(0, 0), span(2, 3), span(9, 10), span(10, 19)}},
	} {
		if places, e := seam.Places(c.l); e != api.OK || !slices.Equal(places, c.places) {
			t.Error(name, places, e)
		}
	}
	if places, e := seam.Places(longest()); e != api.OK || len(places) != 201 || places[200] != span(110189, 2000000) {
		t.Error(places, e)
	}
}

// P7.2: the places of lengths of all kinds, pick by pick.
func TestPlacesOfAllPicks(t *testing.T) {
	r := source(1)
	for range 500 {
		l := anyLength(r, upTo(r, 1, api.MaxSeamPicks), api.MaxSeamWidth, upTo(r, 0, api.MaxSeamWidth))
		places, e := seam.Places(l)
		picks := spread(l)
		if e != api.OK || len(places) != len(picks)+1 {
			t.Fatal(l, places, e)
		}
		low, high := 0, 0
		for edge, place := range places {
			if edge > 0 {
				low, high = low+picks[edge-1].Low, high+picks[edge-1].High
			}
			if place != span(low, high) {
				t.Fatal(l, edge, place, low, high)
			}
		}
	}
}

// twoErrors returns the errors of all functions that have two lengths with marks, whose other arguments are wrong.
func twoErrors(t *testing.T, a, b []api.SeamPart, marks []int) []api.Errno {
	t.Helper()
	spans, e := seam.Ahead(a, b, marks)
	run, f := seam.Run(a, b, marks, api.SeamTruth{A: []int{0}})
	edge, apart, g := seam.Part(a, b, marks, -1)
	least, h := seam.Least(a, b, marks)
	truth, i := seam.Show(a, b, marks, -1, far)
	zero(t, api.ErrArg, spans, run, edge, apart, least, truth)
	return []api.Errno{e, f, g, h, i}
}

// P7.3, P7.4, P7.5, P7.6, P7.7: the errors of two lengths come first, in their order: those of a, those of b, the form, the marks, the state.
func TestTwoLengthsErrors(t *testing.T) {
	a, b := exampleA(), exampleB()
	try := func(name string, a, b []api.SeamPart, marks []int, want api.Errno) {
		t.Helper()
		if errors := twoErrors(t, a, b, marks); !slices.Equal(errors, slices.Repeat([]api.Errno{want}, 5)) {
			t.Error(name, errors)
		}
		if len(marks) > 0 {
			return
		}
		list, e := seam.Marks(a, b, -1)
		if e != want {
			t.Error(name, "Marks", e)
		}
		zero(t, e, list)
	}
	for name, c := range invalidLengths() {
		try(name+" as a", c.l, length(201, 0, 0), nil, c.e)
		try(name+" as a, with marks", c.l, b, []int{0, 0}, c.e)
		try(name+" as b", a, c.l, nil, c.e)
		try(name+" as b, with marks", length(1, 1, 1), c.l, []int{0, 0}, c.e)
	}
	try("a longer", length(4, 5, 6), length(3, 5, 6), nil, api.ErrForm)
	try("b longer", length(3, 5, 6), length(3, 5, 6, 1, 5, 6), nil, api.ErrForm)
	try("b longer, with marks", length(3, 5, 6), length(4, 5, 6), []int{0}, api.ErrForm)
	for _, marks := range [][]int{{0}, {4}, {-1}, {0, 1}, {1, 4}, {1, 1, 4}, {3, 2, 0}, {far}, {deep}, make([]int, 300)} {
		try("marks", a, b, marks, api.ErrArg)
	}
	for _, marks := range [][]int{{1, 1}, {2, 1}, {1, 2, 2}, {1, 3, 2}, {3, 3}, {3, 2, 1}, slices.Repeat([]int{2}, 300)} {
		try("marks", a, b, marks, api.ErrTwice)
	}
	for _, marks := range [][]int{{1, 3}, {2, 3}, {1, 2, 3}} {
		try("marks", a, b, marks, api.ErrState)
	}
	try("always less", length(2, 5, 6), length(2, 7, 9), []int{1}, api.ErrState)
	try("always more", length(2, 7, 9), length(2, 5, 6), []int{2}, api.ErrState)
}
