package beam_test

import (
	"reflect"
	"slices"
	"testing"

	"griffe/api"
	"griffe/beam"
)

// asked is arguments of all functions.
type asked struct {
	take   api.BeamTake
	shop   []int
	want   api.Ratio
	pairs  int
	relax  api.Span
	notes  []api.BeamNote
	warp   api.BeamWarp
	roll   api.BeamRoll
	weight []int
	length int
}

// everything returns the results of all functions.
func everything(a asked) []any {
	var all []any
	add := func(results ...any) { all = append(all, results...) }
	add(beam.Check(a.take))
	take, e := beam.Take(a.take)
	add(take, e)
	picks, e := beam.Picks(a.take, a.length)
	add(picks, e)
	l, got, e := beam.Nearest(a.take, a.shop, a.want, a.pairs)
	add(l, got, e)
	long, e := beam.Figure(a.take, a.relax, a.length)
	add(long, e)
	left, at, e := beam.Relaxed(a.take, a.relax, a.notes)
	add(left, at, e)
	add(beam.Warp(a.warp))
	gives, e := beam.Gives(a.warp)
	add(gives, e)
	need, e := beam.Need(a.warp, a.length)
	add(need, e)
	add(beam.Roll(a.roll))
	for _, weight := range a.weight {
		layers, e := beam.Bears(a.roll, weight)
		add(layers, e)
	}
	turns, layer, e := beam.Weights(a.roll, a.weight)
	add(turns, layer, e)
	return all
}

// spare returns a list that has room behind its end, and that room.
func spare[T any](l []T, filler T) (list, room []T) {
	room = append(slices.Clone(l), filler, filler, filler)
	return room[:len(l)], room
}

// spoil writes over the lists of results, and behind their ends.
func spoil(results []any) {
	for _, result := range results {
		switch r := result.(type) {
		case []int:
			spoilList(r, -9)
		case []api.BeamTurn:
			spoilList(r, api.BeamTurn{Layer: -9, Weight: -9})
		}
	}
}

func spoilList[T any](l []T, filler T) {
	for at := range l {
		l[at] = filler
	}
	_ = append(l, filler)
}

// P2, R4: equal results for equal arguments, which stay as they are, with what lies behind their ends; results are new memory.
func TestArgumentsAreKept(t *testing.T) {
	r := source(15)
	for _, up := range samples(r, 200) {
		a := asked{take: up, want: ratio(upTo(r, 1, 1000000), upTo(r, 1, 100)), pairs: r.IntN(3), relax: spanIn(r, 0, 200), warp: warps(r, 4)[r.IntN(7)], roll: rolls(r, 2, 20)[0], length: upTo(r, 0, api.MaxBeamPicks)}
		shop, shopRoom := spare(anyShop(r, r.IntN(8)), -7)
		notes, noteRoom := spare(anyNotes(r, up, a.relax.Low, r.IntN(4)), note(-7, -7, -7))
		weights, weightRoom := spare(anyWeights(r, a.roll, r.IntN(9)), -7)
		pairs, pairRoom := spare(up.Pairs, api.BeamPair{Driver: -7, Driven: -7})
		a.shop, a.notes, a.weight, a.take.Pairs = shop, notes, weights, pairs
		kept := []any{slices.Clone(shopRoom), slices.Clone(noteRoom), slices.Clone(weightRoom), slices.Clone(pairRoom)}
		call := func() []any {
			results := everything(a)
			if now := []any{shopRoom, noteRoom, weightRoom, pairRoom}; !reflect.DeepEqual(kept, now) {
				t.Fatal(a, "was changed:", kept, now)
			}
			return results
		}
		first, again := call(), call()
		if !reflect.DeepEqual(first, again) {
			t.Fatal(a, first, again)
		}
		spoil(first)
		if last := call(); !reflect.DeepEqual(again, last) {
			t.Fatal(a, again, last)
		}
	}
}

// P1, R2: no arguments lead to a panic, and results with an error are zero values, but for the number of a note or of a layer.
func TestAnyArguments(t *testing.T) {
	odd := []int{deep, -1, 0, 1, 2, 3, 100, 101, 200, 2000, 500000, 1000000, 10000000000, far}
	try := func(a asked) {
		t.Helper()
		take, e := beam.Take(a.take)
		zero(t, e, take)
		picks, e := beam.Picks(a.take, a.length)
		zero(t, e, picks)
		l, got, e := beam.Nearest(a.take, a.shop, a.want, a.pairs)
		zero(t, e, l, got)
		long, e := beam.Figure(a.take, a.relax, a.length)
		zero(t, e, long)
		left, at, e := beam.Relaxed(a.take, a.relax, a.notes)
		zero(t, e, left)
		if e != api.ErrState {
			zero(t, api.ErrState, at)
		}
		gives, e := beam.Gives(a.warp)
		zero(t, e, gives)
		need, e := beam.Need(a.warp, a.length)
		zero(t, e, need)
		for _, weight := range a.weight {
			layers, e := beam.Bears(a.roll, weight)
			zero(t, e, layers)
		}
		turns, layer, e := beam.Weights(a.roll, a.weight)
		zero(t, e, turns)
		if e != api.ErrState {
			zero(t, api.ErrState, layer)
		}
	}
	for _, a := range odd {
		for _, b := range odd {
			try(asked{takeUp(a, b, 1), []int{a, b}, ratio(1, 1), 1, span(0, 200), []api.BeamNote{note(1, a, b)}, linen(), wound(), []int{a, b}, a})
			try(asked{takeUp(1, a, b), nil, ratio(a, b), 2, span(a, b), []api.BeamNote{note(a, 0, b)}, warp(span(a, b), span(0, 0), span(0, 0), span(0, 0)), roll(a, b, 3, 3, 1, 9), []int{60, 80}, b})
			try(asked{takeUp(1, 1, 1, a, b), []int{20, 30, 50, a}, ratio(a, 1), b, span(0, 0), nil, warp(span(0, 9), span(a, b), span(0, 0), span(0, 0)), roll(3, 3, a, b, 1, 9), []int{1, b}, a})
			try(asked{takeUp(1, 1, 1, 1, 1, a, b), []int{a, 20}, ratio(1, b), a, span(0, a), nil, warp(span(0, 9), span(0, 0), span(a, b), span(0, 0)), roll(3, 3, 3, 3, a, b), []int{a, 1}, b})
			try(asked{example(), []int{20, 30, 50}, ratio(a, b), 2, span(b, 200), []api.BeamNote{note(a, 0, 1), note(1, b, 3000)}, warp(span(0, 9), span(0, 0), span(0, 0), span(a, b)), wound(), []int{60, a, b}, a})
		}
	}
}

// R3: a nil list and an empty one are the same.
func TestNilIsEmpty(t *testing.T) {
	bare := takeUp(60, 1, 300000)
	for _, pairs := range [][]api.BeamPair{nil, {}} {
		bare.Pairs = pairs
		if take, e := beam.Take(bare); e != api.OK || take != ratio(5000, 1) {
			t.Error(take, e)
		}
	}
	for _, shop := range [][]int{nil, {}} {
		if l, got, e := beam.Nearest(bare, shop, ratio(1, 1), 2); e != api.OK || len(l) != 0 || got != ratio(5000, 1) {
			t.Error(l, got, e)
		}
	}
	for _, notes := range [][]api.BeamNote{nil, {}} {
		if left, at, e := beam.Relaxed(bare, span(3, 9), notes); e != api.OK || at != 0 || left != span(3, 9) {
			t.Error(left, at, e)
		}
	}
	for _, weights := range [][]int{nil, {}} {
		if l, layer, e := beam.Weights(wound(), weights); e != api.ErrState || layer != 200 || len(l) != 0 {
			t.Error(l, layer, e)
		}
	}
}
