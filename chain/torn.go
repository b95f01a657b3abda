package chain

import (
	"iter"
	"slices"

	"griffe/api"
)

// way is a way in which a part lies: the first of its places around the chain, and the places of its cards in their order.
type way struct {
	first  int
	places []int
}

// end returns the number of places from the place 0 on, without going round, to the one after the part.
func (w way) end() int { return w.first + len(w.places) }

// layings is the parts of a torn chain, each with the ways in which it may lie, from the smallest one on.
type layings struct {
	ring
	ways [][]way
}

func layingsOf(t api.ChainTorn) layings {
	l := layings{ring: ring(t.Length)}
	for _, p := range t.Parts {
		l.ways = append(l.ways, l.sorted(p))
	}
	return l
}

// sorted returns the ways of a part. Ways with the same places are one: those of a loose card, and of two loose cards that are a whole chain.
func (l layings) sorted(p api.ChainPart) []way {
	var ways []way
	for w := range l.each(p) {
		ways = append(ways, w)
	}
	slices.SortFunc(ways, func(a, b way) int { return slices.Compare(a.places, b.places) })
	return slices.CompactFunc(ways, func(a, b way) bool { return slices.Equal(a.places, b.places) })
}

// each yields the ways in which a part lies where its numbers allow it, in one order and, if it is loose, in the other one.
func (l layings) each(p api.ChainPart) iter.Seq[way] {
	return func(yield func(way) bool) {
		for first := range l.around(0) {
			forth := l.from(first, len(p.Cards))
			if allowed(p, forth) && !yield(way{first, forth}) {
				return
			}
			back := slices.Clone(forth)
			slices.Reverse(back)
			if p.Loose && allowed(p, back) && !yield(way{first, back}) {
				return
			}
		}
	}
}

// from returns so many places from one on, or all of them if there are fewer.
func (r ring) from(first, many int) []int {
	var places []int
	for at := range r.around(first) {
		if len(places) == many {
			break
		}
		places = append(places, at)
	}
	return places
}

// allowed reports whether there is a place for each card, and it is the card's number if that can be read.
func allowed(p api.ChainPart, places []int) bool {
	if len(places) < len(p.Cards) {
		return false
	}
	for at, c := range p.Cards {
		if c.Number != api.ChainBlot && c.Number != places[at] {
			return false
		}
	}
	return true
}

// laid is the parts that are laid already.
type laid [api.MaxChainParts]bool

// and returns the parts that are laid with one more.
func (l laid) and(part int) laid {
	l[part] = true
	return l
}

// with returns how many layings there are in which a part lies in a way.
//
// This part cuts the ring of places, so the others are laid along a line: from the end of the part to its beginning, place by place.
func (l layings) with(part int, w way) int {
	free := int(l.ring) - len(w.places)
	// reached has, for each place of the line, how many ways there are to lay each set of parts before it.
	reached := make([]map[laid]int, free+1)
	for at := range reached {
		reached[at] = map[laid]int{}
	}
	all := laid{}.and(part)
	reached[0][all] = 1
	for at := range free {
		for done, many := range reached[at] {
			if l.fits(done, at+1+len(w.places)) {
				reached[at+1][done] += many
			}
		}
		for next := range l.ways {
			size, ways := l.beginning(next, l.after(w.end(), at))
			if ways > 0 && at+size <= free {
				layNext(reached[at], reached[at+size], next, ways)
			}
		}
	}
	for other := range l.ways {
		all = all.and(other)
	}
	return reached[free][all]
}

// fits reports whether so many places leave enough of them for the parts that are not laid.
func (l layings) fits(done laid, places int) bool {
	for part, ways := range l.ways {
		if !done[part] && len(ways) > 0 {
			places += len(ways[0].places)
		}
	}
	return places <= int(l.ring)
}

// layNext adds the sets of parts with one part more, where it is not laid yet, in so many ways.
func layNext(from, to map[laid]int, part, ways int) {
	for done, many := range from {
		if !done[part] {
			to[done.and(part)] += many * ways
		}
	}
}

// beginning returns how many ways of a part have a place as their first one, and how many cards the part has.
func (l layings) beginning(part, place int) (size, ways int) {
	for _, w := range l.ways[part] {
		if w.first == place {
			size = len(w.places)
			ways++
		}
	}
	return size, ways
}

// possible yields the ways in which a part lies in some laying.
func (l layings) possible(part int) iter.Seq[way] {
	return func(yield func(way) bool) {
		for _, w := range l.ways[part] {
			if l.with(part, w) > 0 && !yield(w) {
				return
			}
		}
	}
}

// smallest returns the smallest way in which a part lies in some laying.
func (l layings) smallest(part int) (w way, ok bool) {
	for w := range l.possible(part) {
		return w, true
	}
	return way{}, false
}

// fixed returns the layings in which a part lies in a way.
func (l layings) fixed(part int, w way) layings {
	ways := slices.Clone(l.ways)
	ways[part] = []way{w}
	return layings{l.ring, ways}
}

// held returns the places that some card has in some laying. Ways that would add no place are not looked at, since most of them do not.
func (l layings) held() map[int]bool {
	held := map[int]bool{}
	isNew := func(place int) bool { return !held[place] }
	for part := range l.ways {
		for _, w := range l.ways[part] {
			if !slices.ContainsFunc(w.places, isNew) || l.with(part, w) == 0 {
				continue
			}
			for _, place := range w.places {
				held[place] = true
			}
		}
	}
	return held
}
