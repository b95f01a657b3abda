package beam_test

import (
	"math/big"
	"math/rand/v2"
	"reflect"
	"slices"
	"testing"

	"griffe/api"
	"griffe/beam"
)

// Integers at the ends of Go's int, which no limit allows.
const far, deep = 1<<63 - 1, -1 << 63

func span(low, high int) api.Span { return api.Span{Low: low, High: high} }

func ratio(num, den int) api.Ratio { return api.Ratio{Num: num, Den: den} }

// takeUp returns a take-up with the teeth of pairs: Driver, Driven, and so on.
func takeUp(ratchet, step, round int, teeth ...int) api.BeamTake {
	t := api.BeamTake{Ratchet: ratchet, Step: step, Round: round}
	for pair := range slices.Chunk(teeth, 2) {
		t.Pairs = append(t.Pairs, api.BeamPair{Driver: pair[0], Driven: pair[1]})
	}
	return t
}

// example is the take-up of the chapter's examples.
func example() api.BeamTake { return takeUp(60, 1, 300000, 20, 50) }

// Take-ups that take up as much, and as little, as any can.
func fastest() api.BeamTake { return takeUp(1, 5, 500000, 100, 1, 100, 1) }

func slowest() api.BeamTake { return takeUp(100, 1, 1, 1, 100, 1, 100) }

func source(seed uint64) *rand.Rand { return rand.New(rand.NewPCG(seed, 60)) }

// upTo returns an integer from low to high, which is often one of both ends.
func upTo(r *rand.Rand, low, high int) int {
	switch r.IntN(8) {
	case 0:
		return low
	case 1:
		return high
	}
	return low + r.IntN(high-low+1)
}

// spanIn returns a span that is valid from low to high.
func spanIn(r *rand.Rand, low, high int) api.Span {
	a, b := upTo(r, low, high), upTo(r, low, high)
	return span(min(a, b), max(a, b))
}

// samples returns take-ups of all kinds.
func samples(r *rand.Rand, many int) []api.BeamTake {
	all := []api.BeamTake{example(), fastest(), slowest()}
	for range many {
		var teeth []int
		for range 2 * r.IntN(3) {
			teeth = append(teeth, upTo(r, 1, 100))
		}
		all = append(all, takeUp(upTo(r, 1, 100), upTo(r, 1, 5), upTo(r, 1, 500000), teeth...))
	}
	return all
}

// exactly returns how much one pick takes up.
func exactly(t api.BeamTake) *big.Rat {
	take := rat(t.Round*t.Step, t.Ratchet)
	for _, p := range t.Pairs {
		take.Mul(take, rat(p.Driver, p.Driven))
	}
	return take
}

func rat(num, den int) *big.Rat { return big.NewRat(int64(num), int64(den)) }

// times returns a product.
func times(a *big.Rat, n int) *big.Rat { return new(big.Rat).Mul(a, rat(n, 1)) }

// down returns a number rounded down; it must not be below 0.
func down(a *big.Rat) int { return int(new(big.Int).Quo(a.Num(), a.Denom()).Int64()) }

// invalidTakes is take-ups with their errors.
func invalidTakes() map[string]struct {
	t api.BeamTake
	e api.Errno
} {
	return map[string]struct {
		t api.BeamTake
		e api.Errno
	}{
		"nothing":               {api.BeamTake{}, api.ErrArg},
		"three pairs":           {takeUp(60, 1, 300000, 1, 1, 1, 1, 1, 1), api.ErrLong},
		"three pairs and worse": {takeUp(0, 0, 0, 0, 0, 0, 0, 0, 0), api.ErrLong},
		"no ratchet":            {takeUp(0, 1, 300000, 20, 50), api.ErrArg},
		"a ratchet below":       {takeUp(-60, 1, 300000, 20, 50), api.ErrArg},
		"a large ratchet":       {takeUp(101, 1, 300000, 20, 50), api.ErrArg},
		"no step":               {takeUp(60, 0, 300000, 20, 50), api.ErrArg},
		"a step back":           {takeUp(60, -1, 300000, 20, 50), api.ErrArg},
		"a large step":          {takeUp(60, 6, 300000, 20, 50), api.ErrArg},
		"no round":              {takeUp(60, 1, 0, 20, 50), api.ErrArg},
		"a round below":         {takeUp(60, 1, -1, 20, 50), api.ErrArg},
		"a large round":         {takeUp(60, 1, 500001, 20, 50), api.ErrArg},
		"no driver":             {takeUp(60, 1, 300000, 0, 50), api.ErrArg},
		"a large driver":        {takeUp(60, 1, 300000, 101, 50), api.ErrArg},
		"no driven":             {takeUp(60, 1, 300000, 20, 0), api.ErrArg},
		"a large driven":        {takeUp(60, 1, 300000, 20, 101), api.ErrArg},
		"a second driver":       {takeUp(60, 1, 300000, 20, 50, -1, 50), api.ErrArg},
		"a second driven":       {takeUp(60, 1, 300000, 20, 50, 20, 101), api.ErrArg},
		"far":                   {takeUp(far, far, far, far, far), api.ErrArg},
		"deep":                  {takeUp(deep, deep, deep, deep, deep), api.ErrArg},
	}
}

// zero reports results that are beside an error and are not zero values.
func zero(t *testing.T, e api.Errno, results ...any) {
	t.Helper()
	for _, r := range results {
		v := reflect.ValueOf(r)
		if e != api.OK && !v.IsZero() && !(v.Kind() == reflect.Slice && v.Len() == 0) {
			t.Error("a result beside the error", e, r)
		}
	}
}

// P6.1: take-ups up to their limits.
func TestCheck(t *testing.T) {
	for _, up := range append(samples(source(1), 100), takeUp(1, 1, 1), takeUp(100, 5, 500000), takeUp(1, 5, 1, 1, 100), takeUp(100, 1, 500000, 100, 1, 1, 1)) {
		if e := beam.Check(up); e != api.OK {
			t.Error(up, e)
		}
	}
}

// P6.1: the errors of a take-up come first in all functions that have one, in their order.
func TestTakeErrorsComeFirst(t *testing.T) {
	for name, c := range invalidTakes() {
		if e := beam.Check(c.t); e != c.e {
			t.Error(name, "Check", e)
		}
		take, e := beam.Take(c.t)
		picks, f := beam.Picks(c.t, -1)
		l, got, g := beam.Nearest(c.t, make([]int, 9), ratio(0, 0), 3)
		long, h := beam.Figure(c.t, span(1, 0), 0)
		left, at, i := beam.Relaxed(c.t, span(1, 0), make([]api.BeamNote, 21))
		if errors := []api.Errno{e, f, g, h, i}; !slices.Equal(errors, slices.Repeat([]api.Errno{c.e}, 5)) {
			t.Error(name, errors)
		}
		zero(t, c.e, take, picks, l, got, long, left, at)
		if _, e := beam.Picks(c.t, 100); e != c.e {
			t.Error(name, "Picks", e)
		}
		if _, _, e := beam.Nearest(c.t, nil, ratio(1, 1), 0); e != c.e {
			t.Error(name, "Nearest", e)
		}
		if _, e := beam.Figure(c.t, span(0, 0), 1); e != c.e {
			t.Error(name, "Figure", e)
		}
		if _, _, e := beam.Relaxed(c.t, span(0, 0), nil); e != c.e {
			t.Error(name, "Relaxed", e)
		}
	}
}

// P6.1: the examples, and take-ups at their limits.
func TestTake(t *testing.T) {
	for _, c := range []struct {
		t    api.BeamTake
		take api.Ratio
	}{
		{example(), ratio(2000, 1)},
		{takeUp(60, 1, 300000, 30, 70), ratio(15000, 7)},
		{takeUp(60, 1, 300000), ratio(5000, 1)},
		{takeUp(60, 2, 300000, 20, 50), ratio(4000, 1)},
		{takeUp(1, 1, 1), ratio(1, 1)},
		{takeUp(7, 5, 3), ratio(15, 7)},
		{takeUp(6, 1, 4, 3, 2), ratio(1, 1)},
		{takeUp(100, 1, 1, 100, 1), ratio(1, 1)},
		{takeUp(60, 1, 300000, 20, 50, 20, 30), ratio(4000, 3)},
		{fastest(), ratio(25000000000, 1)},
		{slowest(), ratio(1, 1000000)},
		{takeUp(97, 1, 499979, 89, 97, 83, 97), ratio(499979*89*83, 97*97*97)},
	} {
		if take, e := beam.Take(c.t); e != api.OK || take != c.take {
			t.Error(c.t, take, e, c.take)
		}
	}
}

// P6.1, P6.10: Take is exact and in lowest terms; the order of the pairs, and of the wheels among them, makes no difference.
func TestTakeExactly(t *testing.T) {
	for _, up := range samples(source(2), 2000) {
		take, e := beam.Take(up)
		want := exactly(up)
		if e != api.OK || big.NewInt(int64(take.Num)).Cmp(want.Num()) != 0 || big.NewInt(int64(take.Den)).Cmp(want.Denom()) != 0 {
			t.Fatal(up, take, e, want)
		}
		if len(up.Pairs) < 2 {
			continue
		}
		a, b := up.Pairs[0], up.Pairs[1]
		for _, pairs := range [][]api.BeamPair{{b, a}, {{Driver: b.Driver, Driven: a.Driven}, {Driver: a.Driver, Driven: b.Driven}}, {{Driver: a.Driver, Driven: b.Driven}, {Driver: b.Driver, Driven: a.Driven}}} {
			up.Pairs = pairs
			if again, e := beam.Take(up); e != api.OK || again != take {
				t.Fatal(up, again, e, take)
			}
		}
	}
}

// P6.2: the examples, the edges, and the limits of the length.
func TestPicks(t *testing.T) {
	for _, c := range []struct {
		t             api.BeamTake
		length, picks int
	}{
		{example(), 25400, 12}, {takeUp(60, 1, 300000, 30, 70), 25400, 11}, {example(), 0, 0}, {example(), 1999, 0}, {example(), 2000, 1}, {example(), 23999, 11}, {example(), 24000, 12}, {example(), 10000000000, 5000000},
		{fastest(), 10000000000, 0}, {takeUp(1, 2, 500000, 100, 1, 100, 1), 10000000000, 1}, {takeUp(1, 2, 500000, 100, 1, 100, 1), 9999999999, 0},
		{slowest(), 10000000000, 10000000000000000}, {slowest(), 1, 1000000}, {slowest(), 0, 0},
		{takeUp(60, 1, 300000, 30, 70), 15000, 7}, {takeUp(60, 1, 300000, 30, 70), 14999, 6},
	} {
		if picks, e := beam.Picks(c.t, c.length); e != api.OK || picks != c.picks {
			t.Error(c, picks, e)
		}
	}
	for _, length := range []int{-1, 10000000001, far, deep} {
		if picks, e := beam.Picks(example(), length); e != api.ErrRange || picks != 0 {
			t.Error(length, picks, e)
		}
	}
}

// P6.2, P6.10: after so many picks the cloth is at most so long, after one more it is longer; twice the length has at least twice the picks, and at most one more.
func TestPicksToThePick(t *testing.T) {
	r := source(3)
	for _, up := range samples(r, 2000) {
		length := upTo(r, 0, api.MaxBeamLength/2)
		picks, e := beam.Picks(up, length)
		take := exactly(up)
		if e != api.OK || times(take, picks).Cmp(rat(length, 1)) > 0 || times(take, picks+1).Cmp(rat(length, 1)) <= 0 {
			t.Fatal(up, length, picks, e)
		}
		twice, e := beam.Picks(up, 2*length)
		if e != api.OK || twice != 2*picks && twice != 2*picks+1 {
			t.Fatal(up, length, picks, twice, e)
		}
	}
}
