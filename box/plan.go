package box

import (
	"iter"
	"math/bits"
	"slices"

	"griffe/api"
)

// plan is colours that are thrown group after group, those of a group in any order. Each colour has the places of its group.
type plan struct {
	colours []int
	groups  []api.Span
}

func planOf(groups ...[]int) plan {
	var p plan
	for _, group := range groups {
		places := api.Span{Low: len(p.colours), High: len(p.colours) + len(group) - 1}
		p.colours = append(p.colours, group...)
		for range group {
			p.groups = append(p.groups, places)
		}
	}
	return p
}

// point is where a plan has come to: what is in the boxes, which of them lie at the race, and a bit for the place of each colour that is thrown.
type point struct {
	boxes
	at   api.BoxPick
	done int
}

// startOf returns the point before all picks.
func startOf(l api.BoxLoom) point { return point{colourBoxes(l), race(l), 0} }

// step is a throw of a plan, its box moves, and the point to which it leads.
type step struct {
	throw
	moves int
	to    point
}

// steps yields the steps from a point, from the smallest pick on.
func (p plan) steps(from point) iter.Seq[step] {
	return func(yield func(step) bool) {
		for t := range from.throws {
			place, ok := p.place(from.done, t.what)
			if !ok {
				continue
			}
			to := point{t.after, t.pick, from.done | 1<<place}
			if !yield(step{t, apart(from.at, t.pick), to}) {
				return
			}
		}
	}
}

// place returns the first place of a colour that is to be thrown next.
func (p plan) place(done, colour int) (place int, ok bool) {
	next := bits.OnesCount(uint(done))
	if next == len(p.colours) {
		return 0, false
	}
	for place := p.groups[next].Low; place <= p.groups[next].High; place++ {
		if done>>place&1 == 0 && p.colours[place] == colour {
			return place, true
		}
	}
	return 0, false
}

// search returns the box moves that are left from each point that leads to the end of the plan, and how many colours can be thrown.
func (p plan) search(start point) (left map[point]int, woven int) {
	reached := p.reached(start)
	woven = len(reached) - 1
	left = map[point]int{}
	for many, points := range slices.Backward(reached) {
		for from := range points {
			moves, ok := p.fewest(left, from)
			if ok || many == len(p.colours) {
				left[from] = moves
			}
		}
	}
	return left, woven
}

// reached returns the points that are reached after each number of colours, as far as these can be thrown.
func (p plan) reached(start point) []map[point]bool {
	reached := []map[point]bool{{start: true}}
	for many := range p.colours {
		next := map[point]bool{}
		for from := range reached[many] {
			for s := range p.steps(from) {
				next[s.to] = true
			}
		}
		if len(next) == 0 {
			break
		}
		reached = append(reached, next)
	}
	return reached
}

// fewest returns the fewest box moves from a point on, by those of the points after it.
func (p plan) fewest(left map[point]int, from point) (moves int, ok bool) {
	for s := range p.steps(from) {
		rest, leads := left[s.to]
		if n := s.moves + rest; leads && (!ok || n < moves) {
			moves, ok = n, true
		}
	}
	return moves, ok
}

// best yields the steps from a point with which no more box moves are left than there must be.
func (p plan) best(left map[point]int, from point) iter.Seq[step] {
	return func(yield func(step) bool) {
		for s := range p.steps(from) {
			rest, leads := left[s.to]
			if leads && s.moves+rest == left[from] && !yield(s) {
				return
			}
		}
	}
}

// picks returns the smallest picks with the fewest box moves.
func (p plan) picks(left map[point]int, now point) []api.BoxPick {
	var picks []api.BoxPick
	for range p.colours {
		for s := range p.best(left, now) {
			picks = append(picks, s.pick)
			now = s.to
			break
		}
	}
	return picks
}

// order returns the smallest order of colours with the fewest box moves.
func (p plan) order(left map[point]int, start point) []int {
	var order []int
	now := map[point]bool{start: true}
	for range p.colours {
		colour, next := p.smallest(left, now)
		order = append(order, colour)
		now = next
	}
	return order
}

// smallest returns the smallest colour of the best steps from some points, and the points to which such steps lead.
func (p plan) smallest(left map[point]int, now map[point]bool) (colour int, next map[point]bool) {
	for from := range now {
		for s := range p.best(left, from) {
			if next == nil || s.what < colour {
				colour, next = s.what, map[point]bool{}
			}
			if s.what == colour {
				next[s.to] = true
			}
		}
	}
	return colour, next
}
