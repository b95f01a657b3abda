package shade_test

import (
	"slices"
	"testing"

	"griffe/api"
	"griffe/shade"
)

// truths yields the truths of a book: what each entry was, and what was left at the end.
func truths(left, scale int, l []api.ShadeEntry, was []int, yield func(was []int, left int)) {
	if len(was) == len(l) {
		yield(was, left)
		return
	}
	entry := l[len(was)]
	for grams := max(0, entry.Grams-scale); grams <= entry.Grams+scale; grams++ {
		after := left
		switch entry.Kind {
		case api.ShadeOut:
			after -= grams
		case api.ShadeBack:
			after += grams
		}
		if after >= 0 && (entry.Kind != api.ShadeWeighed || grams == left) {
			truths(after, scale, l, append(was, grams), yield)
		}
	}
}

// found is the integers that something can be.
type found map[int]bool

// isSpan tells whether a span has just the integers that were found.
func (f found) isSpan(span api.Span) bool {
	for n := range f {
		if n < span.Low || n > span.High {
			return false
		}
	}
	return len(f) == span.High-span.Low+1
}

// naiveBook returns what can be left, and what each entry can have been.
func naiveBook(grams, scale int, l []api.ShadeEntry) (left found, was []found) {
	left = found{}
	for range l {
		was = append(was, found{})
	}
	truths(grams, scale, l, nil, func(is []int, after int) {
		left[after] = true
		for at, n := range is {
			was[at][n] = true
		}
	})
	return left, was
}

// badBooks is books with the error that they have beside that of having no truth, and entries.
func badBooks() map[string]struct {
	grams, scale int
	l            []api.ShadeEntry
	e            api.Errno
} {
	return map[string]struct {
		grams, scale int
		l            []api.ShadeEntry
		e            api.Errno
	}{
		"no grams":                   {0, 5, exampleBook(), api.ErrArg},
		"grams below":                {-1, 5, nil, api.ErrArg},
		"too many grams":             {1000001, 5, nil, api.ErrArg},
		"grams far out":              {far, 5, nil, api.ErrArg},
		"no grams and 41 entries":    {0, 5, make([]api.ShadeEntry, 41), api.ErrArg},
		"41 entries":                 {1000, 5, slices.Repeat(exampleBook()[1:2], 41), api.ErrLong},
		"41 entries and worse":       {1000, 5, make([]api.ShadeEntry, 41), api.ErrLong},
		"no kind":                    {1000, 5, entries(1, 300, 0, 20), api.ErrArg},
		"a fourth kind":              {1000, 5, entries(4, 300), api.ErrArg},
		"a kind below":               {1000, 5, entries(-1, 300), api.ErrArg},
		"a kind far out":             {1000, 5, entries(far, 300), api.ErrArg},
		"an entry below":             {1000, 5, entries(2, -1), api.ErrArg},
		"an entry too great":         {1000, 5, entries(2, 12000001), api.ErrArg},
		"an entry far out":           {1000, 5, entries(3, far), api.ErrArg},
		"an entry deep below":        {1000, 5, entries(1, deep), api.ErrArg},
		"false, then an entry below": {1000, 5, entries(1, 2000, 1, -1), api.ErrArg},
	}
}

// P9.8, P9.9, P9.10, R2: errors of books, in their order.
func TestInvalidBook(t *testing.T) {
	check := func(name string, grams, scale int, l []api.ShadeEntry, want api.Errno) {
		t.Helper()
		if left, at, e := shade.Book(grams, scale, l); left != (api.Span{}) || at != 0 || e != want {
			t.Error(name, left, at, e)
		}
		for _, entry := range []int{-1, 0, 99} {
			if was, e := shade.Was(grams, scale, l, entry); was != (api.Span{}) || e != want {
				t.Error(name, was, e)
			}
		}
	}
	for name, c := range badBooks() {
		check(name, c.grams, c.scale, c.l, c.e)
		if scale, e := shade.Scale(c.grams, c.l); scale != 0 || e != c.e {
			t.Error(name, scale, e)
		}
	}
	for _, scale := range []int{-1, 1001, far, deep} {
		check("a scale", 1000, scale, exampleBook(), api.ErrArg)
		check("a scale and 41 entries", 1000, scale, make([]api.ShadeEntry, 41), api.ErrArg)
		check("a scale and a false book", 1000, scale, entries(1, 5000), api.ErrArg)
	}
}

// P9.8, P9.13: what is left, and the first entry that cannot be true.
func TestBook(t *testing.T) {
	for _, c := range []struct {
		grams, scale int
		l            []api.ShadeEntry
		low, high    int
		at           int
		e            api.Errno
	}{
		{1000, 5, exampleBook(), 505, 535, 0, api.OK},
		{1000, 5, exampleBook(540), 535, 535, 0, api.OK},
		{1000, 5, exampleBook(541), 0, 0, 3, api.ErrShadeFalse},
		{1000, 5, exampleBook(500), 505, 505, 0, api.OK},
		{1000, 5, exampleBook(499), 0, 0, 3, api.ErrShadeFalse},
		{1000, 5, exampleBook(520), 515, 525, 0, api.OK},
		{1000, 0, exampleBook(), 520, 520, 0, api.OK},
		{1000, 0, exampleBook(520, 520), 520, 520, 0, api.OK},
		{1000, 0, exampleBook(520, 521), 0, 0, 4, api.ErrShadeFalse},
		{1000, 0, exampleBook(521, 520), 0, 0, 3, api.ErrShadeFalse},
		{1000, 5, exampleBook(520, 530), 525, 525, 0, api.OK},
		{1000, 5, nil, 1000, 1000, 0, api.OK},
		{1, 1000, nil, 1, 1, 0, api.OK},
		{1000000, 1000, nil, 1000000, 1000000, 0, api.OK},
		{10, 3, entries(1, 10), 0, 3, 0, api.OK},
		{10, 3, entries(1, 13), 0, 0, 0, api.OK},
		{10, 3, entries(1, 14), 0, 0, 0, api.ErrShadeFalse},
		{10, 3, entries(1, 1), 6, 10, 0, api.OK},
		{10, 3, entries(1, 0), 7, 10, 0, api.OK},
		{10, 3, entries(2, 1), 10, 14, 0, api.OK},
		{10, 3, entries(2, 0), 10, 13, 0, api.OK},
		{10, 3, entries(1, 8, 1, 8), 0, 0, 0, api.OK},
		{10, 3, entries(1, 8, 1, 9), 0, 0, 1, api.ErrShadeFalse},
		{10, 3, entries(1, 8, 2, 9), 6, 17, 0, api.OK},
		{10, 3, entries(1, 10, 1, 6), 0, 0, 0, api.OK},
		{10, 3, entries(1, 10, 1, 6, 2, 0), 0, 3, 0, api.OK},
		{10, 3, entries(3, 13), 10, 10, 0, api.OK},
		{10, 3, entries(3, 14), 0, 0, 0, api.ErrShadeFalse},
		{10, 3, entries(3, 7), 10, 10, 0, api.OK},
		{10, 3, entries(3, 6), 0, 0, 0, api.ErrShadeFalse},
		{10, 3, entries(2, 10, 3, 2), 0, 0, 1, api.ErrShadeFalse},
		{10, 3, entries(1, 10, 3, 0), 0, 3, 0, api.OK},
		{10, 0, entries(1, 10, 1, 0, 3, 0, 2, 0), 0, 0, 0, api.OK},
		{10, 0, entries(1, 10, 1, 1), 0, 0, 1, api.ErrShadeFalse},
		{10, 0, entries(2, 30), 40, 40, 0, api.OK},
		{1, 1000, entries(2, 12000000, 1, 12000000), 0, 2001, 0, api.OK},
		{1000000, 1000, slices.Repeat(entries(2, 12000000), 40), 480960000, 481040000, 0, api.OK},
		{1000000, 1000, slices.Repeat(entries(1, 25000), 40), 0, 40000, 0, api.OK},
		{1000000, 0, slices.Repeat(entries(1, 25001), 40), 0, 0, 39, api.ErrShadeFalse},
	} {
		if left, at, e := shade.Book(c.grams, c.scale, c.l); left != (api.Span{Low: c.low, High: c.high}) || at != c.at || e != c.e {
			t.Error(c, left, at, e)
		}
	}
}

// P9.9: what entries were, of which only the last ones tell some.
func TestWas(t *testing.T) {
	for _, c := range []struct {
		grams, scale int
		l            []api.ShadeEntry
		entry        int
		low, high    int
		e            api.Errno
	}{
		{1000, 5, exampleBook(), 0, 295, 305, api.OK},
		{1000, 5, exampleBook(), 1, 15, 25, api.OK},
		{1000, 5, exampleBook(), 2, 195, 205, api.OK},
		{1000, 5, exampleBook(540), 0, 295, 295, api.OK},
		{1000, 5, exampleBook(540), 1, 25, 25, api.OK},
		{1000, 5, exampleBook(540), 2, 195, 195, api.OK},
		{1000, 5, exampleBook(540), 3, 535, 535, api.OK},
		{1000, 5, exampleBook(538), 0, 295, 297, api.OK},
		{1000, 5, exampleBook(538), 1, 23, 25, api.OK},
		{1000, 5, exampleBook(538), 2, 195, 197, api.OK},
		{1000, 5, exampleBook(538), 3, 533, 535, api.OK},
		{1000, 5, exampleBook(500), 0, 305, 305, api.OK},
		{1000, 5, exampleBook(500), 1, 15, 15, api.OK},
		{1000, 5, exampleBook(520, 530), 3, 525, 525, api.OK},
		{1000, 5, exampleBook(541), 0, 0, 0, api.ErrShadeFalse},
		{1000, 5, exampleBook(541), 4, 0, 0, api.ErrShadeFalse},
		{1000, 5, exampleBook(541), -1, 0, 0, api.ErrShadeFalse},
		{1000, 5, exampleBook(540), 4, 0, 0, api.ErrNone},
		{1000, 5, exampleBook(540), -1, 0, 0, api.ErrNone},
		{1000, 5, exampleBook(540), far, 0, 0, api.ErrNone},
		{1000, 5, exampleBook(540), deep, 0, 0, api.ErrNone},
		{1000, 5, nil, 0, 0, 0, api.ErrNone},
		{10, 3, entries(1, 8, 1, 8), 0, 5, 5, api.OK},
		{10, 3, entries(1, 8, 1, 8), 1, 5, 5, api.OK},
		{10, 3, entries(1, 8, 1, 7), 0, 5, 6, api.OK},
		{10, 3, entries(1, 1), 0, 0, 4, api.OK},
		{10, 3, entries(2, 2), 0, 0, 5, api.OK},
		{10, 3, entries(2, 2, 1, 17), 0, 4, 5, api.OK},
		{10, 3, entries(2, 2, 1, 17, 2, 5), 1, 14, 15, api.OK},
		{1000000, 1000, append(slices.Repeat(entries(2, 12000000), 39), entries(3, 12000000)...), 0, 0, 0, api.ErrShadeFalse},
		{1000000, 1000, slices.Repeat(entries(2, 12000000), 40), 39, 11999000, 12001000, api.OK},
	} {
		if was, e := shade.Was(c.grams, c.scale, c.l, c.entry); was != (api.Span{Low: c.low, High: c.high}) || e != c.e {
			t.Error(c, was, e)
		}
	}
}

// P9.8, P9.9, P9.13: what is left, and what entries were, is so in some truth, and in all truths it is one of these.
func TestTruths(t *testing.T) {
	r := source(9)
	var isTrue, isFalse, kinds [6]int
	for many := 0; many < 4000; many++ {
		grams, scale, l := upTo(r, 1, 12), upTo(r, 0, 3), anyEntries(r, upTo(r, 0, 5), 10)
		left, at, e := shade.Book(grams, scale, l)
		all, was := naiveBook(grams, scale, l)
		if len(all) == 0 {
			before, _ := naiveBook(grams, scale, l[:at])
			with, _ := naiveBook(grams, scale, l[:at+1])
			if e != api.ErrShadeFalse || left != (api.Span{}) || len(before) == 0 || len(with) > 0 {
				t.Fatal(grams, scale, l, left, at, e)
			}
			isFalse[at]++
			continue
		}
		if e != api.OK || at != 0 || !all.isSpan(left) {
			t.Fatal(grams, scale, l, left, at, e, all)
		}
		isTrue[len(l)]++
		for entry := range l {
			span, e := shade.Was(grams, scale, l, entry)
			if e != api.OK || !was[entry].isSpan(span) {
				t.Fatal(grams, scale, l, entry, span, e, was)
			}
			if span.Low > max(0, l[entry].Grams-scale) || span.High < l[entry].Grams+scale {
				kinds[l[entry].Kind]++
			}
		}
	}
	if slices.Min(isTrue[:]) < 50 || slices.Min(isFalse[:5]) < 20 || slices.Min(kinds[1:4]) < 100 {
		t.Error("too few samples:", isTrue, isFalse, kinds)
	}
}

// P9.10: scales that are just good enough, and the errors.
func TestScale(t *testing.T) {
	for _, c := range []struct {
		grams int
		l     []api.ShadeEntry
		scale int
		e     api.Errno
	}{
		{1000, exampleBook(541), 6, api.OK},
		{1000, exampleBook(540), 5, api.OK},
		{1000, exampleBook(520), 0, api.OK},
		{1000, exampleBook(521), 1, api.OK},
		{1000, exampleBook(500), 5, api.OK},
		{1000, exampleBook(499), 6, api.OK},
		{1000, exampleBook(520, 522), 1, api.OK},
		{1000, nil, 0, api.OK},
		{1, entries(1, 1), 0, api.OK},
		{1, entries(1, 1001), 1000, api.OK},
		{1, entries(1, 1002), 0, api.ErrShadeFalse},
		{1, entries(3, 1001), 1000, api.OK},
		{1, entries(3, 1002), 0, api.ErrShadeFalse},
		{1000, entries(3, 0), 1000, api.OK},
		{1001, entries(3, 0), 0, api.ErrShadeFalse},
		{1000000, entries(1, 1, 2, 1, 3, 0), 0, api.ErrShadeFalse},
		{10, entries(1, 10, 1, 9), 5, api.OK},
		{10, entries(1, 10, 1, 8), 4, api.OK},
	} {
		if scale, e := shade.Scale(c.grams, c.l); scale != c.scale || e != c.e {
			t.Error(c, scale, e)
		}
	}
}

// P9.10, P9.13: with the scale there is a truth, with a better one there is none.
func TestScaleIsLeast(t *testing.T) {
	r := source(10)
	var seen [5]int
	for many := 0; many < 3000; many++ {
		most := []int{20, 500, 3000}[r.IntN(3)]
		grams, l := upTo(r, 1, most), anyEntries(r, upTo(r, 0, 6), most)
		scale, e := shade.Scale(grams, l)
		if e != api.OK {
			if _, _, f := shade.Book(grams, 1000, l); e != api.ErrShadeFalse || f != e || scale != 0 {
				t.Fatal(grams, l, scale, e, f)
			}
			seen[4]++
			continue
		}
		if _, at, e := shade.Book(grams, scale, l); at != 0 || e != api.OK {
			t.Fatal(grams, l, scale, at, e)
		}
		if scale == 0 {
			seen[0]++
			continue
		}
		if _, _, e := shade.Book(grams, scale-1, l); e != api.ErrShadeFalse {
			t.Fatal(grams, l, scale, e)
		}
		seen[1+min(2, scale/10)]++
	}
	if slices.Min(seen[:]) < 50 {
		t.Error("too few samples:", seen)
	}
}

// isWithin tells whether a span lies within another one.
func isWithin(narrow, wide api.Span) bool { return wide.Low <= narrow.Low && narrow.High <= wide.High }

// P9.13, P9.14: with better scales, or with one more weighing, no span is wider; if the scale is 0, everything is known.
func TestMoreIsKnown(t *testing.T) {
	r := source(11)
	samples, known := 0, 0
	for many := 0; many < 3000; many++ {
		grams, scale, l := upTo(r, 200, 900), upTo(r, 1, 60), anyEntries(r, upTo(r, 1, 10), 300)
		least, e := shade.Scale(grams, l)
		if e != api.OK || least > scale {
			continue
		}
		left, _, _ := shade.Book(grams, scale, l)
		more := append(slices.Clone(l), api.ShadeEntry{Kind: api.ShadeWeighed, Grams: upTo(r, max(0, left.Low-scale), left.High+scale)})
		for _, c := range []struct {
			scale int
			l     []api.ShadeEntry
		}{{upTo(r, least, scale), l}, {least, l}, {scale, more}} {
			narrow, _, e := shade.Book(grams, c.scale, c.l)
			if e != api.OK || !isWithin(narrow, left) {
				t.Fatal(grams, scale, l, c, narrow, left, e)
			}
			for entry := range l {
				one, e := shade.Was(grams, scale, l, entry)
				other, f := shade.Was(grams, c.scale, c.l, entry)
				if e != api.OK || f != api.OK || !isWithin(other, one) {
					t.Fatal(grams, scale, l, c, entry, one, other, e, f)
				}
				if c.scale == 0 && (narrow.Low < narrow.High || other.Low < other.High) {
					t.Fatal(grams, l, narrow, entry, other)
				}
			}
			if c.scale == 0 {
				known++
			}
		}
		samples++
	}
	if samples < 500 || known < 100 {
		t.Error("too few samples:", samples, known)
	}
}
