package seam_test

import (
	"math/rand/v2"
	"slices"
	"testing"

	"griffe/api"
	"griffe/seam"
)

// lead returns by how much a is ahead at each edge in a truth.
func lead(t api.SeamTruth) []int {
	run, a, b := []int{0}, 0, 0
	for pick := range t.A {
		a, b = a+t.A[pick], b+t.B[pick]
		run = append(run, a-b)
	}
	return run
}

// isOut tells whether a truth is out because of a mark.
func isOut(run, marks []int) bool {
	return slices.ContainsFunc(marks, func(edge int) bool { return run[edge] != 0 })
}

// all returns all lists of numbers each of which lies in its span.
func all(spans []api.Span) [][]int {
	lists := [][]int{nil}
	for _, s := range spans {
		var longer [][]int
		for _, list := range lists {
			for n := s.Low; n <= s.High; n++ {
				longer = append(longer, append(slices.Clone(list), n))
			}
		}
		lists = longer
	}
	return lists
}

// left returns by how much a is ahead, in each truth that is left.
func left(a, b []api.SeamPart, marks []int) [][]int {
	var runs [][]int
	bs := all(spread(b))
	for _, x := range all(spread(a)) {
		for _, y := range bs {
			if run := lead(api.SeamTruth{A: x, B: y}); !isOut(run, marks) {
				runs = append(runs, run)
			}
		}
	}
	return runs
}

// bounds returns by how much a can be ahead at each edge, by what each mark says about it on its own, and false if no truth is left.
func bounds(a, b []api.SeamPart, marks []int) ([]api.Span, bool) {
	as, bs := spread(a), spread(b)
	spans := make([]api.Span, len(as)+1)
	for edge := range spans {
		spans[edge] = span(deep, far)
		for _, mark := range append([]int{0}, marks...) {
			low, high := 0, 0
			for pick := min(mark, edge); pick < max(mark, edge); pick++ {
				low, high = low+as[pick].Low-bs[pick].High, high+as[pick].High-bs[pick].Low
			}
			if mark > edge {
				low, high = -high, -low
			}
			spans[edge] = span(max(spans[edge].Low, low), min(spans[edge].High, high))
		}
		if spans[edge].Low > spans[edge].High {
			return nil, false
		}
	}
	return spans, true
}

// parted returns by how much one length can be ahead of the other.
func parted(s api.Span) int { return max(s.High, -s.Low) }

// checkShown reports a truth that is not left, or in which a is not ahead by so much.
func checkShown(t *testing.T, a, b []api.SeamPart, marks []int, edge, ahead int) {
	t.Helper()
	truth, e := seam.Show(a, b, marks, edge, ahead)
	if e != api.OK {
		t.Fatal(a, b, marks, edge, ahead, e)
	}
	for i, widths := range [2][]int{truth.A, truth.B} {
		can := spread([2][]api.SeamPart{a, b}[i])
		if len(widths) != len(can) {
			t.Fatal(a, b, marks, edge, ahead, truth)
		}
		for pick, width := range widths {
			if width < can[pick].Low || width > can[pick].High {
				t.Fatal(a, b, marks, edge, ahead, truth)
			}
		}
	}
	run, e := seam.Run(a, b, marks, truth)
	if own := lead(truth); own[edge] != ahead || isOut(own, marks) || e != api.OK || !slices.Equal(run, own) {
		t.Fatal(a, b, marks, edge, ahead, truth, run, e)
	}
}

// checkNotShown reports a truth that there should not be.
func checkNotShown(t *testing.T, a, b []api.SeamPart, marks []int, edge, ahead int) {
	t.Helper()
	truth, e := seam.Show(a, b, marks, edge, ahead)
	if e != api.ErrNone {
		t.Fatal(a, b, marks, edge, ahead, truth, e)
	}
	zero(t, e, truth)
}

// small returns two lengths of few and narrow picks, with marks.
func small(r *rand.Rand) (a, b []api.SeamPart, marks []int) {
	picks := 1 + r.IntN(4)
	return anyLength(r, picks, 4, 2), anyLength(r, picks, 4, 2), anyMarks(r, picks, r.IntN(3))
}

// large returns two lengths of many picks, of about the same widths.
func large(r *rand.Rand) (a, b []api.SeamPart) {
	picks := upTo(r, 1, api.MaxSeamPicks)
	widest, room := upTo(r, 2, api.MaxSeamWidth), upTo(r, 0, api.MaxSeamWidth)
	return anyLength(r, picks, widest, room), anyLength(r, picks, widest, room)
}

// near returns two lengths of many picks one of which has room around the other.
func near(r *rand.Rand) (a, b []api.SeamPart) {
	a = anyLength(r, upTo(r, 1, api.MaxSeamPicks), api.MaxSeamWidth, upTo(r, 0, 50))
	b = slices.Clone(a)
	for i, part := range b {
		more := r.IntN(20)
		b[i].Width = span(max(1, part.Width.Low-more), min(api.MaxSeamWidth, part.Width.High+more))
	}
	return a, b
}

// P7.3: the examples, and what marks leave.
func TestAhead(t *testing.T) {
	a, b := exampleA(), exampleB()
	for name, c := range map[string]struct {
		a, b  []api.SeamPart
		marks []int
		want  []api.Span
	}{
		"without marks":    {a, b, nil, []api.Span{span(0, 0), span(0, 20), span(0, 40), span(-50, 0)}},
		"the mark 1":       {a, b, []int{1}, []api.Span{span(0, 0), span(0, 0), span(0, 20), span(-50, -20)}},
		"the mark 2":       {a, b, []int{2}, []api.Span{span(0, 0), span(0, 0), span(0, 0), span(-50, -40)}},
		"the mark 3":       {a, b, []int{3}, []api.Span{span(0, 0), span(20, 20), span(40, 40), span(0, 0)}},
		"the marks 1, 2":   {a, b, []int{1, 2}, []api.Span{span(0, 0), span(0, 0), span(0, 0), span(-50, -40)}},
		"turned over":      {b, a, nil, []api.Span{span(0, 0), span(-20, 0), span(-40, 0), span(0, 50)}},
		"one pick":         {length(1, 5, 9), length(1, 3, 7), nil, []api.Span{span(0, 0), span(-2, 6)}},
		"a mark at it":     {length(1, 5, 9), length(1, 3, 7), []int{1}, []api.Span{span(0, 0), span(0, 0)}},
		"before and after": {length(4, 9, 11), length(4, 10, 10), []int{2}, []api.Span{span(0, 0), span(-1, 1), span(0, 0), span(-1, 1), span(-2, 2)}},
		"never ahead":      {length(2, 1, 3), length(2, 5, 6), nil, []api.Span{span(0, 0), span(-5, -2), span(-10, -4)}},
	} {
		if spans, e := seam.Ahead(c.a, c.b, c.marks); e != api.OK || !slices.Equal(spans, c.want) {
			t.Error(name, spans, e)
		}
	}
	spans, e := seam.Ahead(length(200, 10000, 10000), length(200, 1, 1), nil)
	if e != api.OK || len(spans) != 201 || spans[200] != span(1999800, 1999800) {
		t.Error(spans, e)
	}
}

// P7.3, P7.5, P7.7, P7.10: Ahead, Least, Part and Show against all truths of small lengths.
func TestAllTruths(t *testing.T) {
	r := source(2)
	some, none := 0, 0
	for range 1200 {
		a, b, marks := small(r)
		runs := left(a, b, marks)
		spans, e := seam.Ahead(a, b, marks)
		if len(runs) == 0 {
			none++
			if e != api.ErrState {
				t.Fatal(a, b, marks, spans, e)
			}
			continue
		}
		some++
		want, least := make([]api.Span, len(runs[0])), 0
		for edge := range want {
			at := func(run []int) int { return run[edge] }
			compare := func(x, y []int) int { return at(x) - at(y) }
			want[edge] = span(at(slices.MinFunc(runs, compare)), at(slices.MaxFunc(runs, compare)))
			least = max(least, parted(want[edge]))
		}
		if e != api.OK || !slices.Equal(spans, want) {
			t.Fatal(a, b, marks, spans, e, want)
		}
		if l, e := seam.Least(a, b, marks); e != api.OK || l != least {
			t.Fatal(a, b, marks, l, e, least)
		}
		checkPart(t, a, b, marks, want)
		for edge, s := range want {
			for ahead := s.Low; ahead <= s.High; ahead++ {
				checkShown(t, a, b, marks, edge, ahead)
			}
			checkNotShown(t, a, b, marks, edge, s.Low-1)
			checkNotShown(t, a, b, marks, edge, s.High+1)
		}
	}
	if some < 300 || none < 100 {
		t.Error("too few samples of a kind", some, none)
	}
}

// checkPart reports a wrong edge, or a wrong distance, for any tolerance.
func checkPart(t *testing.T, a, b []api.SeamPart, marks []int, spans []api.Span) {
	t.Helper()
	for _, s := range append([]api.Span{{}}, spans...) {
		for _, tolerance := range []int{parted(s) - 1, parted(s)} {
			if tolerance < 0 {
				continue
			}
			edge, apart, e := seam.Part(a, b, marks, tolerance)
			first := slices.IndexFunc(spans, func(s api.Span) bool { return parted(s) > tolerance })
			if first < 0 {
				if e != api.ErrNone || edge != 0 || apart != 0 {
					t.Fatal(a, b, marks, tolerance, edge, apart, e)
				}
			} else if e != api.OK || edge != first || apart != parted(spans[first]) {
				t.Fatal(a, b, marks, tolerance, edge, apart, e)
			}
		}
	}
}

// P7.3, P7.5, P7.7, P7.10, P7.11: Ahead, Least and Part against what each mark says, for lengths up to the limits; Show reaches the ends, at which they part.
func TestAheadOfLargeLengths(t *testing.T) {
	r := source(3)
	some, none := 0, 0
	for i := range 500 {
		a, b := large(r)
		if i%2 == 0 {
			a, b = near(r)
		}
		picks := len(spread(a))
		marks := anyMarks(r, picks, r.IntN(6))
		want, ok := bounds(a, b, marks)
		spans, e := seam.Ahead(a, b, marks)
		if !ok {
			none++
			if e != api.ErrState {
				t.Fatal(a, b, marks, spans, e)
			}
			continue
		}
		if e != api.OK || !slices.Equal(spans, want) {
			t.Fatal(a, b, marks, spans, e, want)
		}
		if len(marks) > 0 {
			some++
		}
		for _, edge := range append(slices.Clone(marks), 0, picks, r.IntN(picks+1)) {
			s := spans[edge]
			checkShown(t, a, b, marks, edge, s.Low)
			checkShown(t, a, b, marks, edge, s.High)
			checkShown(t, a, b, marks, edge, s.Low+r.IntN(s.High-s.Low+1))
			checkNotShown(t, a, b, marks, edge, s.Low-1)
			checkNotShown(t, a, b, marks, edge, s.High+1)
		}
		checkLeast(t, a, b, marks, spans)
	}
	if some < 150 || none < 50 {
		t.Error("too few samples of a kind", some, none)
	}
}

// checkLeast reports a Least that is not the least tolerance for which Part returns ErrNone, and an edge that Show does not part.
func checkLeast(t *testing.T, a, b []api.SeamPart, marks []int, spans []api.Span) {
	t.Helper()
	least, e := seam.Least(a, b, marks)
	if e != api.OK || least != parted(slices.MaxFunc(spans, func(s, t api.Span) int { return parted(s) - parted(t) })) {
		t.Fatal(a, b, marks, least, e)
	}
	if edge, apart, e := seam.Part(a, b, marks, least); e != api.ErrNone {
		t.Fatal(a, b, marks, least, edge, apart, e)
	}
	if least == 0 {
		return
	}
	for _, tolerance := range []int{0, least / 2, least - 1} {
		edge, apart, e := seam.Part(a, b, marks, tolerance)
		if e != api.OK || apart <= tolerance || slices.IndexFunc(spans, func(s api.Span) bool { return parted(s) > tolerance }) != edge {
			t.Fatal(a, b, marks, tolerance, edge, apart, e)
		}
		if apart != spans[edge].High {
			apart = -apart
		}
		checkShown(t, a, b, marks, edge, apart)
	}
}

// P7.4: the example, and truths of all kinds.
func TestRun(t *testing.T) {
	a, b := exampleA(), exampleB()
	for _, c := range []struct {
		marks, a, b, run []int
	}{
		{nil, []int{100, 100, 50}, []int{100, 100, 100}, []int{0, 0, 0, -50}},
		{nil, []int{110, 110, 50}, []int{90, 90, 90}, []int{0, 20, 40, 0}},
		{[]int{3}, []int{110, 110, 50}, []int{90, 90, 90}, []int{0, 20, 40, 0}},
		{nil, []int{110, 100, 50}, []int{95, 91, 100}, []int{0, 15, 24, -26}},
		{[]int{1, 2}, []int{100, 100, 50}, []int{100, 100, 93}, []int{0, 0, 0, -43}},
	} {
		if run, e := seam.Run(a, b, c.marks, api.SeamTruth{A: c.a, B: c.b}); e != api.OK || !slices.Equal(run, c.run) {
			t.Error(c, run, e)
		}
	}
	r := source(4)
	ok, out := 0, 0
	for range 4000 {
		a, b, marks := small(r)
		as, bs := all(spread(a)), all(spread(b))
		truth := api.SeamTruth{A: as[r.IntN(len(as))], B: bs[r.IntN(len(bs))]}
		want := lead(truth)
		run, e := seam.Run(a, b, marks, truth)
		if isOut(want, marks) {
			out++
			if e != api.ErrState {
				t.Fatal(a, b, marks, truth, run, e)
			}
			zero(t, e, run)
		} else if ok++; e != api.OK || !slices.Equal(run, want) {
			t.Fatal(a, b, marks, truth, run, e)
		}
	}
	if ok < 500 || out < 500 {
		t.Error("too few samples of a kind", ok, out)
	}
}

// P7.4: the errors, in their order.
func TestRunErrors(t *testing.T) {
	a, b := exampleA(), exampleB()
	x, y := []int{110, 110, 50}, []int{90, 90, 90}
	for _, c := range []struct {
		name  string
		marks []int
		a, b  []int
		e     api.Errno
	}{
		{"no widths", nil, nil, nil, api.ErrForm},
		{"few widths in A", nil, x[:2], y, api.ErrForm},
		{"few widths in B", nil, x, y[:2], api.ErrForm},
		{"many widths in A", nil, append(x[:3:3], 50), y, api.ErrForm},
		{"many widths in B", nil, x, append(y[:3:3], 90), api.ErrForm},
		{"few and wrong", []int{1}, []int{0, 0}, []int{0, 0, 0}, api.ErrForm},
		{"wrong and few", []int{1}, []int{0, 0, 0}, []int{0, 0}, api.ErrForm},
		{"A narrow", nil, []int{99, 110, 50}, y, api.ErrRange},
		{"A wide", nil, []int{110, 111, 50}, y, api.ErrRange},
		{"A narrow in the second part", nil, []int{110, 110, 49}, y, api.ErrRange},
		{"A wide in the second part", nil, []int{110, 110, 51}, y, api.ErrRange},
		{"B narrow", nil, x, []int{89, 90, 90}, api.ErrRange},
		{"B wide", nil, x, []int{90, 90, 101}, api.ErrRange},
		{"wrong and out", []int{1}, []int{99, 110, 50}, y, api.ErrRange},
		{"far", nil, []int{far, far, far}, y, api.ErrRange},
		{"deep", nil, x, []int{deep, deep, deep}, api.ErrRange},
		{"out at 1", []int{1}, x, y, api.ErrState},
		{"out at 2", []int{2}, x, y, api.ErrState},
		{"out at 3", []int{3}, []int{109, 110, 50}, y, api.ErrState},
		{"out at the second mark", []int{1, 2}, []int{100, 101, 50}, []int{100, 100, 100}, api.ErrState},
	} {
		run, e := seam.Run(a, b, c.marks, api.SeamTruth{A: c.a, B: c.b})
		if e != c.e {
			t.Error(c.name, run, e)
		}
		zero(t, e, run)
	}
}

// P7.5: the examples, and tolerances at their limits.
func TestPart(t *testing.T) {
	a, b := exampleA(), exampleB()
	for _, c := range []struct {
		marks                  []int
		tolerance, edge, apart int
		e                      api.Errno
	}{
		{nil, 30, 2, 40, api.OK}, {nil, 50, 0, 0, api.ErrNone}, {nil, 49, 3, 50, api.OK}, {nil, 40, 3, 50, api.OK}, {nil, 39, 2, 40, api.OK}, {nil, 0, 1, 20, api.OK}, {nil, 2000000, 0, 0, api.ErrNone},
		{[]int{3}, 40, 0, 0, api.ErrNone}, {[]int{3}, 39, 2, 40, api.OK}, {[]int{3}, 19, 1, 20, api.OK}, {[]int{1}, 0, 2, 20, api.OK}, {[]int{1}, 20, 3, 50, api.OK}, {[]int{2}, 0, 3, 50, api.OK},
		{nil, -1, 0, 0, api.ErrRange}, {nil, 2000001, 0, 0, api.ErrRange}, {nil, far, 0, 0, api.ErrRange}, {nil, deep, 0, 0, api.ErrRange},
	} {
		if edge, apart, e := seam.Part(a, b, c.marks, c.tolerance); edge != c.edge || apart != c.apart || e != c.e {
			t.Error(c, edge, apart, e)
		}
		if edge, apart, e := seam.Part(b, a, c.marks, c.tolerance); edge != c.edge || apart != c.apart || e != c.e {
			t.Error(c, "turned over", edge, apart, e)
		}
	}
	for _, c := range []struct {
		marks []int
		least int
	}{{nil, 50}, {[]int{1}, 50}, {[]int{2}, 50}, {[]int{3}, 40}, {[]int{1, 2}, 50}} {
		if least, e := seam.Least(a, b, c.marks); least != c.least || e != api.OK {
			t.Error(c, least, e)
		}
	}
	wide, narrow := length(200, 10000, 10000), length(200, 1, 1)
	if least, e := seam.Least(narrow, wide, nil); least != 1999800 || e != api.OK {
		t.Error(least, e)
	}
	if edge, apart, e := seam.Part(wide, narrow, nil, 1999799); edge != 200 || apart != 1999800 || e != api.OK {
		t.Error(edge, apart, e)
	}
}

// P7.7: the example, and the errors in their order.
func TestShow(t *testing.T) {
	a, b := exampleA(), exampleB()
	truth, e := seam.Show(a, b, nil, 3, -50)
	if e != api.OK || !slices.Equal(truth.A, []int{100, 100, 50}) || !slices.Equal(truth.B, []int{100, 100, 100}) {
		t.Error(truth, e)
	}
	for _, c := range []struct {
		marks       []int
		edge, ahead int
		e           api.Errno
	}{
		{nil, 0, 0, api.OK}, {nil, 3, 0, api.OK}, {[]int{3}, 2, 40, api.OK}, {[]int{3}, 3, 0, api.OK}, {[]int{1, 2}, 3, -41, api.OK},
		{nil, -1, 0, api.ErrRange}, {nil, 4, 0, api.ErrRange}, {nil, far, far, api.ErrRange}, {nil, deep, 0, api.ErrRange},
		{nil, 0, 1, api.ErrNone}, {nil, 0, -1, api.ErrNone}, {nil, 1, -1, api.ErrNone}, {nil, 1, 21, api.ErrNone}, {nil, 3, -51, api.ErrNone}, {nil, 3, 1, api.ErrNone}, {nil, 3, far, api.ErrNone}, {nil, 3, deep, api.ErrNone},
		{[]int{3}, 2, 39, api.ErrNone}, {[]int{3}, 2, 41, api.ErrNone}, {[]int{3}, 3, 1, api.ErrNone}, {[]int{3}, 3, -1, api.ErrNone}, {[]int{1}, 1, 20, api.ErrNone},
	} {
		if c.e == api.OK {
			checkShown(t, a, b, c.marks, c.edge, c.ahead)
			continue
		}
		truth, e := seam.Show(a, b, c.marks, c.edge, c.ahead)
		if e != c.e {
			t.Error(c, truth, e)
		}
		zero(t, e, truth)
	}
}

// within tells whether each span is narrower than the other one at its edge.
func within(spans, others []api.Span) bool {
	for edge, s := range spans {
		if s.Low < others[edge].Low || s.High > others[edge].High {
			return false
		}
	}
	return len(spans) == len(others)
}

// P7.12: wider Widths widen the spans, one mark more does not, and exchanged lengths turn them over.
func TestMoreOfLengths(t *testing.T) {
	r := source(5)
	marked := 0
	for range 500 {
		a, b := near(r)
		picks := len(spread(a))
		marks := anyMarks(r, picks, r.IntN(4))
		spans, e := seam.Ahead(a, b, marks)
		if e != api.OK {
			t.Fatal(a, b, marks, e)
		}
		wider := slices.Clone(a)
		part := r.IntN(len(wider))
		wider[part].Width = span(max(1, wider[part].Width.Low-r.IntN(3)), min(api.MaxSeamWidth, wider[part].Width.High+r.IntN(3)))
		if more, e := seam.Ahead(wider, b, marks); e != api.OK || !within(spans, more) {
			t.Fatal(a, b, marks, part, more, e)
		}
		edge := 1 + r.IntN(picks)
		if !slices.Contains(marks, edge) {
			marked++
			at, _ := slices.BinarySearch(marks, edge)
			if less, e := seam.Ahead(a, b, slices.Insert(slices.Clone(marks), at, edge)); e != api.OK || !within(less, spans) {
				t.Fatal(a, b, marks, edge, less, e)
			}
		}
		turned, e := seam.Ahead(b, a, marks)
		if e != api.OK {
			t.Fatal(a, b, marks, e)
		}
		for edge, s := range turned {
			if spans[edge] != span(-s.High, -s.Low) {
				t.Fatal(a, b, marks, edge, s)
			}
		}
	}
	if marked < 300 {
		t.Error("too few samples with one mark more", marked)
	}
}

// P7.13: a length beside itself leaves a truth for any marks, and is never ahead if no Width has room.
func TestTheSameLength(t *testing.T) {
	r := source(6)
	for range 300 {
		l := anyLength(r, upTo(r, 1, api.MaxSeamPicks), api.MaxSeamWidth, upTo(r, 0, api.MaxSeamWidth))
		picks := len(spread(l))
		marks := anyMarks(r, picks, upTo(r, 0, picks))
		spans, e := seam.Ahead(l, l, marks)
		if e != api.OK {
			t.Fatal(l, marks, e)
		}
		for edge, s := range spans {
			if s.Low != -s.High || slices.Contains(marks, edge) && s != span(0, 0) {
				t.Fatal(l, marks, edge, s)
			}
		}
		for i := range l {
			l[i].Width.High = l[i].Width.Low
		}
		if spans, e := seam.Ahead(l, l, marks); e != api.OK || slices.ContainsFunc(spans, func(s api.Span) bool { return s != span(0, 0) }) {
			t.Fatal(l, marks, spans, e)
		}
		if least, e := seam.Least(l, l, marks); least != 0 || e != api.OK {
			t.Fatal(l, marks, least, e)
		}
	}
}
