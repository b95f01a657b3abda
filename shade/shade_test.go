package shade_test

import (
	"math/rand/v2"
	"reflect"
	"slices"
	"testing"

	"griffe/api"
	"griffe/shade"
)

// The numbers that lie farthest out.
const far, deep = 1<<63 - 1, -1 << 63

// lots returns the lots: Colour, Low, High, Grams, and so on.
func lots(numbers ...int) []api.ShadeLot {
	var l []api.ShadeLot
	for n := range slices.Chunk(numbers, 4) {
		l = append(l, api.ShadeLot{Colour: n[0], Shade: api.Span{Low: n[1], High: n[2]}, Grams: n[3]})
	}
	return l
}

// needs returns the needs: Colour, Grams, and so on.
func needs(numbers ...int) []api.ShadeNeed {
	var l []api.ShadeNeed
	for n := range slices.Chunk(numbers, 2) {
		l = append(l, api.ShadeNeed{Colour: n[0], Grams: n[1]})
	}
	return l
}

func need(colour, grams int) api.ShadeNeed { return api.ShadeNeed{Colour: colour, Grams: grams} }

// entries returns the entries: Kind, Grams, and so on.
func entries(numbers ...int) []api.ShadeEntry {
	var l []api.ShadeEntry
	for n := range slices.Chunk(numbers, 2) {
		l = append(l, api.ShadeEntry{Kind: api.ShadeKind(n[0]), Grams: n[1]})
	}
	return l
}

// The four lots of the chapter's examples.
func example() []api.ShadeLot {
	return lots(1, 100, 110, 500, 1, 105, 112, 300, 1, 108, 125, 400, 1, 120, 130, 600)
}

// exampleBook returns the entries of the chapter's fifth example.
func exampleBook(weighed ...int) []api.ShadeEntry {
	l := entries(1, 300, 2, 20, 1, 200)
	for _, grams := range weighed {
		l = append(l, api.ShadeEntry{Kind: api.ShadeWeighed, Grams: grams})
	}
	return l
}

func source(seed uint64) *rand.Rand { return rand.New(rand.NewPCG(seed, 90)) }

// upTo returns an integer from low to high.
func upTo(r *rand.Rand, low, high int) int { return low + r.IntN(high-low+1) }

// anyLots returns so many lots of so many colours, with shades up to a last one that are so wide at most, and up to 9 grams.
func anyLots(r *rand.Rand, many, colours, last, wide int) []api.ShadeLot {
	var l []api.ShadeLot
	for range many {
		low := upTo(r, 0, last)
		l = append(l, lots(r.IntN(colours), low, min(last, low+upTo(r, 0, wide)), upTo(r, 1, 9))...)
	}
	return l
}

// anyEntries returns so many entries with so many grams at most.
func anyEntries(r *rand.Rand, many, grams int) []api.ShadeEntry {
	var l []api.ShadeEntry
	for range many {
		l = append(l, entries(upTo(r, 1, 3), upTo(r, 0, grams))...)
	}
	return l
}

// zero reports results beside an error that are not zero values.
func zero(t *testing.T, e api.Errno, results ...any) {
	t.Helper()
	for _, result := range results {
		v := reflect.ValueOf(result)
		if e != api.OK && !v.IsZero() && (v.Kind() != reflect.Slice || v.Len() > 0) {
			t.Fatal(result, "beside the error", e)
		}
	}
}

// full returns as many lots as there can be.
func full() []api.ShadeLot { return slices.Repeat(lots(9, 0, 1000, 1000000), 12) }

// invalid is lots with their errors.
func invalid() map[string]struct {
	lots []api.ShadeLot
	e    api.Errno
} {
	return map[string]struct {
		lots []api.ShadeLot
		e    api.Errno
	}{
		"thirteen lots":           {slices.Repeat(example()[:1], 13), api.ErrLong},
		"thirteen lots and worse": {make([]api.ShadeLot, 13), api.ErrLong},
		"a colour below":          {lots(-1, 100, 110, 500), api.ErrArg},
		"a colour too great":      {append(example(), lots(10, 100, 110, 500)...), api.ErrArg},
		"a colour far out":        {lots(far, 100, 110, 500), api.ErrArg},
		"a shade below":           {lots(1, -1, 110, 500), api.ErrArg},
		"a shade too great":       {lots(1, 100, 1001, 500), api.ErrArg},
		"both shades too great":   {lots(1, 1001, 1001, 500), api.ErrArg},
		"both shades below":       {lots(1, -1, -1, 500), api.ErrArg},
		"shades far out":          {lots(1, deep, far, 500), api.ErrArg},
		"shades turned":           {append(example(), lots(1, 110, 109, 500)...), api.ErrArg},
		"no grams":                {append(lots(1, 100, 110, 0), example()...), api.ErrArg},
		"grams below":             {lots(1, 100, 110, -1), api.ErrArg},
		"too many grams":          {lots(1, 100, 110, 1000001), api.ErrArg},
		"grams far out":           {lots(1, 100, 110, far), api.ErrArg},
	}
}

// P9.1, P1, R2: errors of lots, which every function with lots has first.
func TestInvalid(t *testing.T) {
	for name, c := range invalid() {
		if e := shade.Check(c.lots); e != c.e {
			t.Error(name, e)
		}
		for _, result := range withLots(asked{lots: c.lots, some: []int{99, 99}, tolerance: -1, need: need(-1, -1), needs: make([]api.ShadeNeed, 11)}) {
			if e, ok := result.(api.Errno); ok && e != c.e {
				t.Error(name, e)
			} else if !ok {
				zero(t, c.e, result)
			}
		}
		if lists, at, e := shade.Way(c.lots, -1, make([]api.ShadeNeed, 11)); len(lists) != 0 || at != 0 || e != c.e {
			t.Error(name, lists, at, e)
		}
	}
}

// P9.1, R7: what is valid, up to the limits.
func TestValid(t *testing.T) {
	for name, l := range map[string][]api.ShadeLot{
		"no lots":      nil,
		"the example":  example(),
		"the least":    lots(0, 0, 0, 1),
		"the most":     full(),
		"just one":     lots(9, 1000, 1000, 1000000),
		"many of them": slices.Repeat(lots(0, 0, 0, 1, 9, 1000, 1000, 7), 6),
	} {
		if e := shade.Check(l); e != api.OK {
			t.Error(name, e)
		}
	}
}

// P9.3, P9.4, P9.5, P9.6, P9.7: the error of a tolerance comes before those of needs, and of lots that are too uneven.
func TestTolerance(t *testing.T) {
	for _, tolerance := range []int{-1, 1001, far, deep} {
		for _, l := range [][]api.ShadeLot{nil, example(), full()} {
			cloths, e := shade.Cloths(l, tolerance)
			apart, f := shade.Apart(l, tolerance)
			list, g := shade.Fill(l, tolerance, need(10, 0))
			lists, at, h := shade.Way(l, tolerance, make([]api.ShadeNeed, 11))
			row, seams, i := shade.Row(l, tolerance)
			if len(cloths)+len(apart)+len(list)+len(lists)+at+len(row)+seams != 0 || !slices.Equal([]api.Errno{e, f, g, h, i}, slices.Repeat([]api.Errno{api.ErrRange}, 5)) {
				t.Error(tolerance, l, e, f, g, h, i)
			}
		}
	}
	for _, tolerance := range []int{0, 1000} {
		even := lots(1, 7, 7, 5)
		_, e := shade.Cloths(even, tolerance)
		_, f := shade.Apart(even, tolerance)
		_, g := shade.Fill(even, tolerance, need(1, 5))
		_, _, h := shade.Way(even, tolerance, nil)
		_, _, i := shade.Row(even, tolerance)
		if e != api.OK || f != api.OK || g != api.OK || h != api.OK || i != api.OK {
			t.Error(tolerance, e, f, g, h, i)
		}
	}
}
