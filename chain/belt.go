package chain

import (
	"iter"

	"griffe/api"
)

// hooks is how many hooks the rows of cards have.
type hooks int

// areRows reports whether all numbers are rows.
func (h hooks) areRows(numbers ...int) bool {
	for _, n := range numbers {
		if n < 0 || n >= 1<<h {
			return false
		}
	}
	return true
}

// areCards reports whether all cards have rows of these hooks, and numbers or blots.
func (h hooks) areCards(cards []api.ChainCard) bool {
	for _, c := range cards {
		if c.Number < api.ChainBlot || c.Number >= api.MaxChainCards || !h.areRows(c.Row) {
			return false
		}
	}
	return true
}

// lifted returns the row that a card lifts.
func (h hooks) lifted(c api.ChainCard) int {
	if !c.Turned {
		return c.Row
	}
	row := 0
	for hook := range h {
		row |= c.Row >> (h - 1 - hook) & 1 << hook
	}
	return row
}

// ring is how many places there are of which the first one comes after the last one.
type ring int

// after returns the place so many places on.
func (r ring) after(at, steps int) int { return (at + steps) % int(r) }

// around yields all places from one on.
func (r ring) around(first int) iter.Seq[int] {
	return func(yield func(int) bool) {
		for steps := range int(r) {
			if !yield(r.after(first, steps)) {
				return
			}
		}
	}
}

// belt is the cards of a chain around their places.
type belt struct {
	hooks
	ring
	cards []api.ChainCard
}

func beltOf(b api.ChainBelt) belt { return belt{hooks(b.Hooks), ring(len(b.Cards)), b.Cards} }

// cylinder is a chain with the place of the card that lies at the needles.
type cylinder struct {
	belt
	at int
}

// row returns the row that is lifted now.
func (c cylinder) row() int { return c.lifted(c.cards[c.at]) }

// weaves reports whether a pick of a cloth can have been woven now.
func (c cylinder) weaves(pick int) bool { return pick == api.ChainUnseen || pick == c.row() }
