package chain

import "griffe/api"

// staying is cards that are not moved: how many, and a bit for each of their places, of which that of the place 0 is the highest one.
// So of as many cards those with the least bits leave the smallest list of places to those that are moved.
type staying struct{ many, places int }

func placeBit(at int) int { return 1 << (api.MaxChainCards - 1 - at) }

func (s staying) with(at int) staying { return staying{s.many + 1, s.places | placeBit(at)} }

func (s staying) has(at int) bool { return s.places&placeBit(at) != 0 }

func (s staying) isBetter(than staying) bool {
	if s.many != than.many {
		return s.many > than.many
	}
	return s.places < than.places
}

// moved returns the places of the cards that do not stay.
func (b belt) moved() []int {
	var best staying
	for first := range b.cards {
		if s := b.stay(first); s.isBetter(best) {
			best = s
		}
	}
	var places []int
	for at := range b.cards {
		if !best.has(at) {
			places = append(places, at)
		}
	}
	return places
}

// stay returns the best cards that ascend from one on, which stays itself.
func (b belt) stay(first int) staying {
	best := staying{}.with(first)
	// last has the best cards by the last one of them.
	last := make([]staying, len(b.cards))
	last[first] = best
	for at := range b.around(first) {
		for before := range b.around(first) {
			if before == at {
				break
			}
			if last[before].many == 0 || b.cards[before].Number > b.cards[at].Number {
				continue
			}
			if s := last[before].with(at); s.isBetter(last[at]) {
				last[at] = s
			}
		}
		if last[at].isBetter(best) {
			best = last[at]
		}
	}
	return best
}
