package beam_test

import (
	"math/rand/v2"
	"slices"
	"testing"

	"griffe/api"
	"griffe/beam"
)

func note(picks, low, high int) api.BeamNote {
	return api.BeamNote{Picks: picks, Long: span(low, high)}
}

// relaxed returns how long so many picks are that relaxed by some thousandths.
func relaxed(t api.BeamTake, picks, by int) int {
	long := times(exactly(t), picks)
	return down(long.Mul(long, rat(1000-by, 1000)))
}

// naiveRelaxed returns all integers of a span with which all notes are true.
func naiveRelaxed(t api.BeamTake, relax api.Span, notes []api.BeamNote) []int {
	var all []int
	for by := relax.Low; by <= relax.High; by++ {
		lies := func(n api.BeamNote) bool {
			long := relaxed(t, n.Picks, by)
			return long < n.Long.Low || long > n.Long.High
		}
		if !slices.ContainsFunc(notes, lies) {
			all = append(all, by)
		}
	}
	return all
}

// anyNotes returns notes: most of them are true for a cloth that relaxed by some thousandths.
func anyNotes(r *rand.Rand, t api.BeamTake, by, many int) []api.BeamNote {
	var notes []api.BeamNote
	for range many {
		picks := upTo(r, 1, api.MaxBeamPicks)
		long := min(relaxed(t, picks, by), api.MaxBeamLength)
		room := 1 + long/(1+r.IntN(200))
		low, high := max(0, long-r.IntN(room)), min(api.MaxBeamLength, long+r.IntN(room))
		if r.IntN(12) == 0 {
			low = high
		}
		notes = append(notes, note(picks, low, high))
	}
	return notes
}

// P6.4: the examples, rounding, and the limits.
func TestFigure(t *testing.T) {
	sevenths := takeUp(60, 1, 300000, 30, 70)
	for _, c := range []struct {
		t     api.BeamTake
		relax api.Span
		picks int
		long  api.Span
	}{
		{example(), span(10, 30), 100, span(194000, 198000)},
		{example(), span(0, 0), 1, span(2000, 2000)},
		{example(), span(0, 200), 1, span(1600, 2000)},
		{example(), span(200, 200), 100000, span(160000000, 160000000)},
		// Rounded once, at the end: 15000/7 * 0.999 is 2140.7.., 2142 * 0.999 is 2139.8..; 10 picks of it are 21407.1...
		{sevenths, span(1, 1), 1, span(2140, 2140)},
		{sevenths, span(1, 1), 10, span(21407, 21407)},
		{sevenths, span(0, 1), 7, span(14985, 15000)},
		{slowest(), span(0, 200), 1, span(0, 0)},
		{slowest(), span(0, 1), 100000, span(0, 0)},
		{takeUp(100, 1, 1), span(0, 1), 100, span(0, 1)},
		{fastest(), span(0, 200), 100000, span(2000000000000000, 2500000000000000)},
		{fastest(), span(199, 199), 99999, span(2002479975000000, 2002479975000000)},
	} {
		if long, e := beam.Figure(c.t, c.relax, c.picks); e != api.OK || long != c.long {
			t.Error(c, long, e)
		}
	}
}

// P6.4, P6.12: whatever the cloth relaxes by, the length lies in Figure, and both ends are reached.
func TestFigureOfAllTruths(t *testing.T) {
	r := source(6)
	for _, up := range samples(r, 300) {
		relax, picks := spanIn(r, 0, 200), upTo(r, 1, api.MaxBeamPicks)
		long, e := beam.Figure(up, relax, picks)
		var all []int
		for by := relax.Low; by <= relax.High; by++ {
			all = append(all, relaxed(up, picks, by))
		}
		if e != api.OK || long != span(slices.Min(all), slices.Max(all)) {
			t.Fatal(up, relax, picks, long, e, all)
		}
	}
}

// P6.4: the errors in their order.
func TestFigureErrors(t *testing.T) {
	for _, relax := range []api.Span{span(1, 0), span(-1, 0), span(0, 201), span(201, 201), span(deep, far), span(far, deep)} {
		for _, picks := range []int{0, 1} {
			if long, e := beam.Figure(example(), relax, picks); e != api.ErrArg || long != span(0, 0) {
				t.Error(relax, picks, long, e)
			}
		}
	}
	for _, picks := range []int{0, -1, 100001, far, deep} {
		if long, e := beam.Figure(example(), span(0, 200), picks); e != api.ErrRange || long != span(0, 0) {
			t.Error(picks, long, e)
		}
	}
}

// P6.5: the examples, the edges of notes, and the first note with which there is no such integer.
func TestRelaxed(t *testing.T) {
	seventh := takeUp(1, 1, 1, 1, 7)
	for _, c := range []struct {
		t     api.BeamTake
		relax api.Span
		notes []api.BeamNote
		left  api.Span
		at    int
		e     api.Errno
	}{
		{example(), span(10, 30), []api.BeamNote{note(100, 195000, 197000)}, span(15, 25), 0, api.OK},
		{example(), span(10, 30), []api.BeamNote{note(100, 195000, 197000), note(50, 98400, 99000)}, span(15, 16), 0, api.OK},
		{example(), span(10, 30), []api.BeamNote{note(50, 98400, 99000)}, span(10, 16), 0, api.OK},
		{example(), span(0, 200), []api.BeamNote{note(50, 98400, 99000)}, span(10, 16), 0, api.OK},
		{example(), span(10, 30), nil, span(10, 30), 0, api.OK},
		{example(), span(0, 200), []api.BeamNote{note(1, 0, 10000000000)}, span(0, 200), 0, api.OK},
		{example(), span(7, 7), []api.BeamNote{note(1, 1986, 1986)}, span(7, 7), 0, api.OK},
		{example(), span(7, 7), []api.BeamNote{note(1, 1985, 1985)}, span(0, 0), 0, api.ErrState},
		{example(), span(7, 7), []api.BeamNote{note(1, 1987, 10000000000)}, span(0, 0), 0, api.ErrState},
		{example(), span(0, 200), []api.BeamNote{note(1, 1985, 1985)}, span(0, 0), 0, api.ErrState},
		{example(), span(0, 200), []api.BeamNote{note(1, 0, 1599)}, span(0, 0), 0, api.ErrState},
		{example(), span(0, 200), []api.BeamNote{note(1, 2001, 2001)}, span(0, 0), 0, api.ErrState},
		{example(), span(0, 200), []api.BeamNote{note(1, 0, 1600)}, span(200, 200), 0, api.OK},
		{example(), span(0, 200), []api.BeamNote{note(1, 2000, 2000)}, span(0, 0), 0, api.OK},
		{example(), span(0, 200), []api.BeamNote{note(100, 195000, 197000), note(1, 0, 5000), note(100, 190000, 194999), note(1, 9, 9)}, span(0, 0), 2, api.ErrState},
		{example(), span(0, 200), []api.BeamNote{note(100, 190000, 194999), note(1, 9, 9), note(100, 195000, 197000)}, span(0, 0), 1, api.ErrState},
		{example(), span(0, 200), append(slices.Repeat([]api.BeamNote{note(1, 0, 9000)}, 19), note(1, 9, 9)), span(0, 0), 19, api.ErrState},
		// Rounded down: 100000 picks are 14285.7, or 14271.4 if r is 1; 7 picks are 1, or less than 1 if r is above 0.
		{seventh, span(0, 200), []api.BeamNote{note(100000, 14285, 14285)}, span(0, 0), 0, api.OK},
		{seventh, span(0, 200), []api.BeamNote{note(100000, 14271, 14271)}, span(1, 1), 0, api.OK},
		{seventh, span(0, 200), []api.BeamNote{note(100000, 14272, 14284)}, span(0, 0), 0, api.ErrState},
		{seventh, span(0, 200), []api.BeamNote{note(7, 0, 0)}, span(1, 200), 0, api.OK},
		{seventh, span(0, 200), []api.BeamNote{note(7, 1, 1)}, span(0, 0), 0, api.OK},
		{seventh, span(5, 9), []api.BeamNote{note(6, 0, 0)}, span(5, 9), 0, api.OK},
		{fastest(), span(0, 200), []api.BeamNote{note(100000, 0, 10000000000)}, span(0, 0), 0, api.ErrState},
		{fastest(), span(0, 200), []api.BeamNote{note(1, 0, 10000000000)}, span(0, 0), 0, api.ErrState},
	} {
		if left, at, e := beam.Relaxed(c.t, c.relax, c.notes); e != c.e || left != c.left || at != c.at {
			t.Error(c, left, at, e)
		}
	}
}

// P6.5, P6.12: Relaxed is just the integers with which all notes are true, the truth among them, and not wider with more notes.
func TestRelaxedByAllNotes(t *testing.T) {
	r := source(7)
	failed, left := 0, 0
	for _, up := range samples(r, 600) {
		relax := spanIn(r, 0, 200)
		notes := anyNotes(r, up, upTo(r, relax.Low, relax.High), r.IntN(8))
		last := relax
		for many := range len(notes) + 1 {
			got, at, e := beam.Relaxed(up, relax, notes[:many])
			all := naiveRelaxed(up, relax, notes[:many])
			if len(all) == 0 {
				failed++
				if e != api.ErrState || at != many-1 || got != span(0, 0) {
					t.Fatal(up, relax, notes[:many], got, at, e)
				}
				if _, later, e := beam.Relaxed(up, relax, notes); e != api.ErrState || later != at {
					t.Fatal(up, relax, notes, later, e, at)
				}
				break
			}
			left++
			if e != api.OK || at != 0 || got != span(all[0], all[len(all)-1]) || len(all) != got.High-got.Low+1 || got.Low < last.Low || got.High > last.High {
				t.Fatal(up, relax, notes[:many], got, at, e, all)
			}
			last = got
		}
	}
	if failed < 30 || left < 300 {
		t.Error("too few samples", failed, left)
	}
}

// P6.5: the errors in their order; a note that is not valid comes before one that cannot be true.
func TestRelaxedErrors(t *testing.T) {
	good, never := note(100, 195000, 197000), note(1, 9, 9)
	for _, c := range []struct {
		relax api.Span
		notes []api.BeamNote
		e     api.Errno
	}{
		{span(1, 0), slices.Repeat([]api.BeamNote{good}, 21), api.ErrArg}, {span(-1, 5), nil, api.ErrArg}, {span(0, 201), nil, api.ErrArg}, {span(deep, far), nil, api.ErrArg},
		{span(0, 200), slices.Repeat([]api.BeamNote{good}, 21), api.ErrLong}, {span(0, 200), make([]api.BeamNote, 21), api.ErrLong}, {span(0, 200), slices.Repeat([]api.BeamNote{never}, 21), api.ErrLong},
		{span(0, 200), make([]api.BeamNote, 20), api.ErrArg},
		{span(0, 200), []api.BeamNote{note(0, 0, 0)}, api.ErrArg}, {span(0, 200), []api.BeamNote{note(-1, 0, 0)}, api.ErrArg}, {span(0, 200), []api.BeamNote{note(100001, 0, 0)}, api.ErrArg}, {span(0, 200), []api.BeamNote{note(far, 0, 0)}, api.ErrArg}, {span(0, 200), []api.BeamNote{note(deep, 0, 0)}, api.ErrArg},
		{span(0, 200), []api.BeamNote{note(1, 1, 0)}, api.ErrArg}, {span(0, 200), []api.BeamNote{note(1, -1, 5000)}, api.ErrArg}, {span(0, 200), []api.BeamNote{note(1, 0, 10000000001)}, api.ErrArg}, {span(0, 200), []api.BeamNote{note(1, deep, far)}, api.ErrArg},
		{span(0, 200), []api.BeamNote{never, note(0, 0, 0)}, api.ErrArg}, {span(0, 200), []api.BeamNote{good, never, good, note(1, 1, 0)}, api.ErrArg},
	} {
		left, at, e := beam.Relaxed(example(), c.relax, c.notes)
		if e != c.e {
			t.Error(c, e)
		}
		zero(t, c.e, left, at)
	}
	if left, at, e := beam.Relaxed(example(), span(0, 200), slices.Repeat([]api.BeamNote{good}, 20)); e != api.OK || at != 0 || left != span(15, 25) {
		t.Error(left, at, e)
	}
	if _, _, e := beam.Relaxed(example(), span(0, 200), []api.BeamNote{note(100000, 0, 10000000000), note(1, 0, 10000000000)}); e != api.OK {
		t.Error(e)
	}
}
