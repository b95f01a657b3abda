package shade

import "iter"

// row lays the lots of a store side by side. It knows the fewest seams from each place on from which it has been asked for them.
type row struct {
	store
	known map[place]int
}

// place is where a row has come to: a bit for each lot that lies in it, and the last one of them.
type place struct{ laid, last int }

func rowOf(s store) row { return row{s, map[place]int{}} }

// lay returns the smallest order of all lots with the fewest seams, and how many these are.
func (r row) lay() (order []int, seams int) {
	var at place
	seams = r.fewest(at)
	for range r.lots {
		at = r.best(at)
		order = append(order, at.last)
	}
	return order, seams
}

// best returns the first place behind one from which there are not more seams than there must be.
func (r row) best(from place) place {
	for to, seams := range r.steps(from) {
		if seams+r.fewest(to) == r.fewest(from) {
			return to
		}
	}
	return from
}

// fewest returns the fewest seams from a place on.
func (r row) fewest(from place) int {
	if seams, ok := r.known[from]; ok {
		return seams
	}
	fewest := len(r.lots)
	for to, seams := range r.steps(from) {
		fewest = min(fewest, seams+r.fewest(to))
	}
	if from.laid == 1<<len(r.lots)-1 {
		fewest = 0
	}
	r.known[from] = fewest
	return fewest
}

// steps yields the places to which the lots lead that are not laid yet, with the seams that this makes, from the first lot on.
func (r row) steps(from place) iter.Seq2[place, int] {
	return func(yield func(place, int) bool) {
		for n := range r.lots {
			if from.laid>>n&1 == 1 {
				continue
			}
			seams := 0
			if from.laid > 0 && !r.alike(from.last, n) {
				seams = 1
			}
			if !yield(place{from.laid | 1<<n, n}, seams) {
				return
			}
		}
	}
}
