package beam_test

import (
	"cmp"
	"math/rand/v2"
	"slices"
	"testing"

	"griffe/api"
	"griffe/beam"
)

func roll(core, thick, layers, pulley, low, high int) api.BeamRoll {
	return api.BeamRoll{Core: core, Thick: thick, Layers: layers, Pulley: pulley, Pull: span(low, high)}
}

// wound is the roll of the chapter's examples.
func wound() api.BeamRoll { return roll(100000, 500, 201, 100000, 40, 60) }

// Rolls at the limits: one that is as thick as any, and one with the smallest layers.
func thickest() api.BeamRoll { return roll(500000, 1000, 2000, 500000, 1, 100000) }

func thinnest() api.BeamRoll { return roll(1, 0, 1, 1, 1, 100000) }

// turns returns turns: Layer, Weight, and so on.
func turns(numbers ...int) []api.BeamTurn {
	var all []api.BeamTurn
	for turn := range slices.Chunk(numbers, 2) {
		all = append(all, api.BeamTurn{Layer: turn[0], Weight: turn[1]})
	}
	return all
}

// pulls reports whether a weight pulls as it must on a layer.
func pulls(r api.BeamRoll, weight, layer int) bool {
	round := r.Core + layer*r.Thick
	pull := times(rat(weight, round), r.Pulley)
	return pull.Cmp(rat(r.Pull.Low, 1)) >= 0 && pull.Cmp(rat(r.Pull.High, 1)) <= 0
}

// borne returns the layers on which a weight pulls as it must.
func borne(r api.BeamRoll, weight int) []int {
	var layers []int
	for layer := range r.Layers {
		if pulls(r, weight, layer) {
			layers = append(layers, layer)
		}
	}
	return layers
}

// rolls returns rolls of at most so many layers; each second one is small, with a narrow span of pulls.
func rolls(r *rand.Rand, many, layers int) []api.BeamRoll {
	var all []api.BeamRoll
	for at := range many {
		up := roll(upTo(r, 1, 500000), upTo(r, 0, 1000), 1+r.IntN(layers), upTo(r, 1, 500000), 1, 1)
		up.Pull = spanIn(r, 1, 100000)
		if at%2 == 0 {
			up = roll(100+r.IntN(100), r.IntN(60), 1+r.IntN(layers), 50+r.IntN(200), 1, 1)
			low := 1 + r.IntN(20)
			up.Pull = span(low, low+r.IntN(30))
		}
		all = append(all, up)
	}
	return all
}

// anyWeights returns so many weights: some that bear layers of a roll, and some alike ones.
func anyWeights(r *rand.Rand, up api.BeamRoll, many int) []int {
	var weights []int
	for range many {
		layer := up.Core + r.IntN(up.Layers)*up.Thick
		weight := layer * upTo(r, up.Pull.Low, up.Pull.High) / up.Pulley
		if r.IntN(10) == 0 {
			weight = upTo(r, 1, api.MaxBeamWeight)
		}
		if len(weights) > 0 && r.IntN(10) == 0 {
			weight = weights[0]
		}
		weights = append(weights, max(1, min(weight, api.MaxBeamWeight)))
	}
	return weights
}

// invalidRolls returns rolls that are not valid.
func invalidRolls() []api.BeamRoll {
	all := []api.BeamRoll{{}}
	for _, n := range []int{0, -1, 500001, far, deep} {
		all = append(all, roll(n, 500, 201, 100000, 40, 60), roll(100000, 500, 201, n, 40, 60))
	}
	for _, n := range []int{-1, 1001, far, deep} {
		all = append(all, roll(100000, n, 201, 100000, 40, 60))
	}
	for _, n := range []int{0, -1, 2001, far, deep} {
		all = append(all, roll(100000, 500, n, 100000, 40, 60))
	}
	for _, s := range []api.Span{span(0, 60), span(-1, 60), span(41, 40), span(40, 100001), span(100001, 100001), span(0, 0), span(far, deep), span(deep, far)} {
		all = append(all, roll(100000, 500, 201, 100000, s.Low, s.High))
	}
	return all
}

// P6.8: rolls up to their limits.
func TestRoll(t *testing.T) {
	for _, r := range append(rolls(source(11), 100, 2000), wound(), thickest(), thinnest(), roll(500000, 0, 2000, 1, 100000, 100000), roll(1, 1000, 1, 500000, 1, 1)) {
		if e := beam.Roll(r); e != api.OK {
			t.Error(r, e)
		}
	}
}

// P6.8, P6.9: the error of a roll comes first.
func TestRollErrors(t *testing.T) {
	for _, r := range invalidRolls() {
		if e := beam.Roll(r); e != api.ErrArg {
			t.Error(r, e)
		}
		for _, weight := range []int{0, 1, 80, 100001} {
			layers, e := beam.Bears(r, weight)
			if e != api.ErrArg || layers != span(0, 0) {
				t.Error(r, weight, layers, e)
			}
			for _, many := range []int{0, 1, 20, 21} {
				l, layer, e := beam.Weights(r, slices.Repeat([]int{weight}, many))
				if e != api.ErrArg {
					t.Error(r, weight, many, e)
				}
				zero(t, api.ErrArg, l, layer)
			}
		}
	}
}

// P6.8: the example, both ends, layers of one round, and the limits.
func TestBears(t *testing.T) {
	for _, c := range []struct {
		r      api.BeamRoll
		weight int
		layers api.Span
		e      api.Errno
	}{
		{wound(), 80, span(67, 200), api.OK}, {wound(), 60, span(0, 100), api.OK}, {wound(), 100, span(134, 200), api.OK},
		{wound(), 40, span(0, 0), api.OK}, {wound(), 39, span(0, 0), api.ErrNone}, {wound(), 41, span(0, 5), api.OK}, {wound(), 120, span(200, 200), api.OK}, {wound(), 121, span(0, 0), api.ErrNone}, {wound(), 119, span(197, 200), api.OK},
		{wound(), 1, span(0, 0), api.ErrNone}, {wound(), 100000, span(0, 0), api.ErrNone},
		// On no layer, though heavier on one side and lighter on the other.
		{roll(100, 100, 2, 100, 10, 10), 15, span(0, 0), api.ErrNone}, {roll(100, 100, 2, 100, 10, 10), 10, span(0, 0), api.OK}, {roll(100, 100, 2, 100, 10, 10), 20, span(1, 1), api.OK},
		{roll(100, 0, 2000, 100, 10, 20), 10, span(0, 1999), api.OK}, {roll(100, 0, 2000, 100, 10, 20), 20, span(0, 1999), api.OK}, {roll(100, 0, 2000, 100, 10, 20), 9, span(0, 0), api.ErrNone}, {roll(100, 0, 2000, 100, 10, 20), 21, span(0, 0), api.ErrNone},
		// Exactly: 3 * 100 / 7 is above 42, and below 43.
		{roll(7, 0, 1, 100, 42, 42), 3, span(0, 0), api.ErrNone}, {roll(7, 0, 1, 100, 43, 43), 3, span(0, 0), api.ErrNone}, {roll(7, 0, 1, 100, 42, 43), 3, span(0, 0), api.OK},
		{thinnest(), 100000, span(0, 0), api.OK}, {thinnest(), 1, span(0, 0), api.OK},
		{thickest(), 100000, span(0, 1999), api.OK}, {thickest(), 4, span(0, 1500), api.OK}, {thickest(), 1, span(0, 0), api.OK}, {roll(1, 1000, 2000, 500000, 1, 100000), 100000, span(500, 1999), api.OK},
		{wound(), 0, span(0, 0), api.ErrRange}, {wound(), -1, span(0, 0), api.ErrRange}, {wound(), 100001, span(0, 0), api.ErrRange}, {wound(), far, span(0, 0), api.ErrRange}, {wound(), deep, span(0, 0), api.ErrRange},
	} {
		if layers, e := beam.Bears(c.r, c.weight); e != c.e || layers != c.layers {
			t.Error(c, layers, e)
		}
	}
}

// P6.8: the layers are just those on which the weight pulls as it must.
func TestBearsOfAllLayers(t *testing.T) {
	r := source(12)
	some, none := 0, 0
	for _, up := range append(rolls(r, 200, 60), rolls(r, 20, 2000)...) {
		for _, weight := range append(anyWeights(r, up, 5), 1+r.IntN(60)) {
			layers, e := beam.Bears(up, weight)
			all := borne(up, weight)
			if len(all) == 0 {
				none++
				if e != api.ErrNone || layers != span(0, 0) {
					t.Fatal(up, weight, layers, e)
				}
				continue
			}
			some++
			if e != api.OK || layers != span(all[0], all[len(all)-1]) || len(all) != layers.High-layers.Low+1 {
				t.Fatal(up, weight, layers, e, all)
			}
		}
	}
	if some < 200 || none < 100 {
		t.Error("too few samples", some, none)
	}
}

// P6.9: the example, which of several weights it is, and layers on which none can hang.
func TestWeights(t *testing.T) {
	flat := roll(100, 0, 9, 100, 10, 20)
	steps := roll(100, 100, 4, 100, 10, 10)
	for _, c := range []struct {
		r       api.BeamRoll
		weights []int
		l       []api.BeamTurn
		layer   int
		e       api.Errno
	}{
		{wound(), []int{60, 80}, turns(200, 80, 66, 60), 0, api.OK},
		{wound(), []int{80, 60}, turns(200, 80, 66, 60), 0, api.OK},
		{wound(), []int{60, 80, 100}, turns(200, 80, 66, 60), 0, api.OK},
		{wound(), []int{100, 60, 80}, turns(200, 80, 66, 60), 0, api.OK},
		{wound(), []int{60, 100}, nil, 133, api.ErrState},
		{wound(), []int{100, 75, 60}, turns(200, 100, 133, 75, 49, 60), 0, api.OK},
		{wound(), []int{100, 75, 60, 50}, turns(200, 100, 133, 75, 49, 60), 0, api.OK},
		{wound(), []int{100, 75, 50, 60}, turns(200, 100, 133, 75, 49, 50), 0, api.OK},
		{wound(), []int{80}, nil, 66, api.ErrState}, {wound(), []int{60}, nil, 200, api.ErrState}, {wound(), []int{39, 121}, nil, 200, api.ErrState}, {wound(), nil, nil, 200, api.ErrState},
		{wound(), []int{60, 60, 80, 80}, turns(200, 80, 66, 60), 0, api.OK},
		{flat, []int{15}, turns(8, 15), 0, api.OK}, {flat, []int{9, 20, 10}, turns(8, 20), 0, api.OK}, {flat, []int{21, 10, 20}, turns(8, 10), 0, api.OK}, {flat, []int{9, 21}, nil, 8, api.ErrState},
		{steps, []int{10, 20, 30, 40}, turns(3, 40, 2, 30, 1, 20, 0, 10), 0, api.OK}, {steps, []int{10, 30, 40}, nil, 1, api.ErrState}, {steps, []int{10, 40}, nil, 2, api.ErrState}, {steps, []int{20, 30, 40}, nil, 0, api.ErrState}, {steps, []int{10, 20, 30}, nil, 3, api.ErrState},
		{thickest(), []int{1, 100000}, turns(1999, 100000), 0, api.OK}, {thickest(), []int{4, 1}, nil, 1999, api.ErrState}, {thickest(), []int{4, 5}, turns(1999, 5), 0, api.OK}, {thinnest(), []int{100000, 1}, turns(0, 100000), 0, api.OK},
		{thinnest(), slices.Repeat([]int{7}, 20), turns(0, 7), 0, api.OK},
	} {
		if l, layer, e := beam.Weights(c.r, c.weights); e != c.e || layer != c.layer || !slices.Equal(l, c.l) {
			t.Error(c, l, layer, e)
		}
	}
}

// P6.9: the errors in their order.
func TestWeightsErrors(t *testing.T) {
	for _, c := range []struct {
		weights []int
		e       api.Errno
	}{
		{make([]int, 21), api.ErrLong}, {slices.Repeat([]int{80}, 21), api.ErrLong},
		{[]int{0}, api.ErrRange}, {[]int{60, 80, 0}, api.ErrRange}, {[]int{-1, 60, 80}, api.ErrRange}, {[]int{60, 100001, 80}, api.ErrRange}, {[]int{far}, api.ErrRange}, {[]int{deep}, api.ErrRange}, {[]int{39, 0}, api.ErrRange}, {make([]int, 20), api.ErrRange},
	} {
		l, layer, e := beam.Weights(wound(), c.weights)
		if e != c.e {
			t.Error(c, e)
		}
		zero(t, c.e, l, layer)
	}
}

// hung is which weight (by its number) hangs on each layer, from the outermost one on.
type hung []int

// runs returns how long each weight hangs, and which one it is.
func (h hung) runs() (lengths, weights []int) {
	for at, weight := range h {
		if at == 0 || weight != h[at-1] {
			lengths, weights = append(lengths, 0), append(weights, weight)
		}
		lengths[len(lengths)-1]++
	}
	return lengths, weights
}

// compare orders by the fewest turns, the latest changes, and the first weights.
func (h hung) compare(other hung) int {
	lengths, weights := h.runs()
	otherLengths, otherWeights := other.runs()
	return cmp.Or(cmp.Compare(len(lengths), len(otherLengths)), slices.Compare(otherLengths, lengths), slices.Compare(weights, otherWeights))
}

// turns returns the turns of the weights.
func (h hung) turns(weights []int) []api.BeamTurn {
	var all []api.BeamTurn
	lengths, numbers := h.runs()
	layer := len(h) - 1
	for at, length := range lengths {
		all = append(all, api.BeamTurn{Layer: layer, Weight: weights[numbers[at]]})
		layer -= length
	}
	return all
}

// ways returns all ways to hang weights on the layers of a roll, from the outermost one on, to a layer.
func ways(r api.BeamRoll, weights []int, layer int) []hung {
	if layer == r.Layers {
		return []hung{nil}
	}
	var all []hung
	for _, outer := range ways(r, weights, layer+1) {
		for number, weight := range weights {
			if pulls(r, weight, layer) {
				all = append(all, append(slices.Clone(outer), number))
			}
		}
	}
	return all
}

// uncovered returns the outermost layer on which no weight pulls as it must, or -1 if there is none.
func uncovered(r api.BeamRoll, weights []int) int {
	for layer := r.Layers - 1; layer >= 0; layer-- {
		if !slices.ContainsFunc(weights, func(weight int) bool { return pulls(r, weight, layer) }) {
			return layer
		}
	}
	return -1
}

// P6.9, P6.14: compared with all ways to hang weights on a few layers.
func TestWeightsOfAllWays(t *testing.T) {
	r := source(13)
	held, none, several := 0, 0, 0
	for _, up := range rolls(r, 4000, 6) {
		weights := anyWeights(r, up, r.IntN(4))
		l, layer, e := beam.Weights(up, weights)
		if at := uncovered(up, weights); at >= 0 {
			none++
			if e != api.ErrState || layer != at || len(l) != 0 {
				t.Fatal(up, weights, l, layer, e, at)
			}
			continue
		}
		held++
		want := slices.MinFunc(ways(up, weights, 0), hung.compare).turns(weights)
		if len(want) > 1 {
			several++
		}
		if e != api.OK || layer != 0 || !slices.Equal(l, want) {
			t.Fatal(up, weights, l, layer, e, want)
		}
	}
	if held < 500 || none < 500 || several < 50 {
		t.Error("too few samples", held, none, several)
	}
}

// fewestTurns returns how few turns there can be.
func fewestTurns(r api.BeamRoll, weights []int) int {
	const never = 1 << 30
	best := make([]int, len(weights))
	for further := range r.Layers {
		from := 0
		if further > 0 {
			from = slices.Min(best)
		}
		for at, weight := range weights {
			stays := best[at]
			if further == 0 {
				stays = never
			}
			best[at] = min(stays, from+1)
			if !pulls(r, weight, r.Layers-1-further) {
				best[at] = never
			}
		}
	}
	return slices.Min(best)
}

// P6.14: on each layer the weight that hangs there pulls as it must, with the fewest turns; with one weight more there are no more turns.
func TestWeightsHold(t *testing.T) {
	r := source(14)
	held, several := 0, 0
	for _, up := range append(rolls(r, 300, 100), rolls(r, 30, 2000)...) {
		weights := anyWeights(r, up, 1+r.IntN(20))
		l, layer, e := beam.Weights(up, weights)
		if at := uncovered(up, weights); at >= 0 {
			if e != api.ErrState || layer != at {
				t.Fatal(up, weights, layer, e, at)
			}
			continue
		}
		held++
		if e != api.OK || len(l) != fewestTurns(up, weights) || l[0].Layer != up.Layers-1 {
			t.Fatal(up, weights, l, e)
		}
		for at, turn := range l {
			next := -1
			if at+1 < len(l) {
				next, several = l[at+1].Layer, several+1
			}
			if next >= turn.Layer || !slices.Contains(weights, turn.Weight) {
				t.Fatal(up, weights, l)
			}
			for layer := turn.Layer; layer > next; layer-- {
				if !pulls(up, turn.Weight, layer) {
					t.Fatal(up, weights, l, layer)
				}
			}
		}
		if len(weights) < api.MaxBeamWeights {
			if again, _, e := beam.Weights(up, append(weights, anyWeights(r, up, 1)...)); e != api.OK || len(again) > len(l) {
				t.Fatal(up, weights, l, again, e)
			}
		}
	}
	if held < 50 || several < 50 {
		t.Error("too few samples", held, several)
	}
}
