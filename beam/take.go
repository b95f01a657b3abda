package beam

import (
	"iter"
	"slices"

	"griffe/api"
)

// thousand is all of a length, in thousandths.
const thousand = 1000

// ratio is above 0, and in lowest terms.
type ratio struct{ api.Ratio }

// takeOf returns how much one pick takes up.
func takeOf(t api.BeamTake) ratio {
	num, den := t.Round*t.Step, t.Ratchet
	for _, p := range t.Pairs {
		num *= p.Driver
		den *= p.Driven
	}
	common := divisor(num, den)
	return ratio{api.Ratio{Num: num / common, Den: den / common}}
}

// divisor returns the greatest integer that divides both.
func divisor(a, b int) int {
	for b > 0 {
		a, b = b, a%b
	}
	return a
}

// picksIn returns how many picks take up at most a length.
func (r ratio) picksIn(length int) int { return length * r.Den / r.Num }

// long returns how long so many picks are when they have relaxed by some thousandths.
func (r ratio) long(picks, relaxed int) int {
	return picks * r.Num * (thousand - relaxed) / (r.Den * thousand)
}

// isNearer reports whether the ratio is nearer to a wanted one than another one is.
func (r ratio) isNearer(other ratio, want api.Ratio) bool {
	// Both distances are multiplied by all three Dens. So no number is above 3 * 10^18.
	return r.off(want)*other.Den < other.off(want)*r.Den
}

// off returns the distance from a wanted ratio, multiplied by both Dens.
func (r ratio) off(want api.Ratio) int {
	a, b := r.Num*want.Den, want.Num*r.Den
	return max(a, b) - min(a, b)
}

// cloth is what is woven with a take-up, and the thousandths by which it can relax.
type cloth struct {
	ratio
	span
}

// relaxed returns the thousandths of the cloth with which a note is true.
func (c cloth) relaxed(n api.BeamNote) span {
	isShortEnough := func(relaxed int) bool { return c.long(n.Picks, relaxed) <= n.Long.High }
	isTooShort := func(relaxed int) bool { return c.long(n.Picks, relaxed) < n.Long.Low }
	return c.part(isShortEnough, isTooShort)
}

// wheels is the teeth of the wheels of a shop.
type wheels []int

// lists yields all lists of so many different wheels, by their numbers, from the smallest list on.
func (w wheels) lists(many int) iter.Seq[[]int] {
	return func(yield func([]int) bool) {
		if many == 0 {
			yield(nil)
			return
		}
		for list := range w.lists(many - 1) {
			for wheel := range w {
				if !slices.Contains(list, wheel) && !yield(append(slices.Clip(list), wheel)) {
					return
				}
			}
		}
	}
}

// paired returns the wheels of a list as pairs.
func (w wheels) paired(list []int) []api.BeamPair {
	var pairs []api.BeamPair
	for p := range slices.Chunk(list, 2) {
		pairs = append(pairs, api.BeamPair{Driver: w[p[0]], Driven: w[p[1]]})
	}
	return pairs
}

// nearest returns the wheels, at most so many pairs of them, with which a take-up is nearest to a wanted one, and this ratio.
func (w wheels) nearest(t api.BeamTake, want api.Ratio, pairs int) (l []int, got ratio) {
	t.Pairs = nil
	got = takeOf(t)
	for many := range pairs + 1 {
		for list := range w.lists(2 * many) {
			t.Pairs = w.paired(list)
			// Of equally near ones the first one stays: it has the fewest pairs, and of these the smallest list.
			if r := takeOf(t); r.isNearer(got, want) {
				l, got = list, r
			}
		}
	}
	return l, got
}
