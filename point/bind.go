package point

import "griffe/api"

// binding is how a pick is to be bound: its points, those that are fixed, and the longest float that it may have.
type binding struct {
	ring
	fixed, bound int
}

// choice is what the points from the last hook down to some hook are to be, with the number of changes in front of their bits: so the best choice is the least number.
type choice int

// change is a change in a choice. A fixed point that is changed counts as more changes than a pick can have, and never is the choice that has so many.
const (
	change choice = 1 << api.MaxHooks
	never         = (api.MaxHooks + 1) * change
)

func (c choice) changes() int { return int(c / change) }

func (c choice) row() int { return int(c % change) }

// choices is the best choices by whether the alike points chosen last are lifted (1) or not (0), and by how many these are.
type choices [2][api.MaxHooks]choice

// bind returns the best choice of all points, or one that is never or greater if the pick cannot be bound.
//
// Points are chosen from the last hook downwards, since the hooks of the greatest values decide which row is the smallest.
// Those of the last hook's float are chosen first, so that it is known how long it is when the pick closes round the edge.
func (b binding) bind() choice {
	best := never
	for lead := 1; lead <= b.longest(); lead++ {
		for lift := range 2 {
			best = min(best, b.withLead(lead, lift))
		}
	}
	return best
}

// longest returns the length of the longest float that the pick may have and has room for.
func (b binding) longest() int { return min(b.bound, b.size-1) }

// withLead returns the best choice in which just so many last hooks are alike: lifted if lift is 1, not if it is 0.
func (b binding) withLead(lead, lift int) choice {
	hook := b.size - 1
	var c choice
	for range lead {
		c = b.put(c, hook, lift)
		hook--
	}
	now := impossible()
	now[1-lift][1] = b.put(c, hook, 1-lift)
	for hook > 0 {
		hook--
		now = b.further(now, hook)
	}
	best := never
	for length := 1; length <= b.longest(); length++ {
		best = min(best, now[1-lift][length])
		if lead+length <= b.bound {
			best = min(best, now[lift][length])
		}
	}
	return best
}

// further returns the choices with the point of one more hook.
func (b binding) further(now choices, hook int) choices {
	next := impossible()
	for lift := range 2 {
		for length := 1; length <= b.longest(); length++ {
			c := now[lift][length]
			if length < b.longest() {
				next[lift][length+1] = b.put(c, hook, lift)
			}
			next[1-lift][1] = min(next[1-lift][1], b.put(c, hook, 1-lift))
		}
	}
	return next
}

// put returns a choice with one more point.
func (b binding) put(c choice, hook, lift int) choice {
	if b.points>>hook&1 != lift {
		c += change
		if b.fixed>>hook&1 == 1 {
			c += never
		}
	}
	return c + choice(lift<<hook)
}

// impossible returns choices none of which is possible.
func impossible() choices {
	var all choices
	for lift := range 2 {
		for length := range all[lift] {
			all[lift][length] = never
		}
	}
	return all
}
