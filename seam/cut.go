package seam

import "griffe/api"

// rule says where a length can start at the soonest, from a pick on.
type rule func(c api.SeamCut, from int) int

// layOut returns where each length starts, such that the last one ends as soon as can be, and where it ends.
// To begin later never lets a length end sooner, so of all orders of the same lengths only the soonest end is kept.
func layOut(cuts []api.SeamCut, soonest rule) (starts []int, need int) {
	sets := 1 << len(cuts)
	ends, last := make([]int, sets), make([]int, sets)
	for set := 1; set < sets; set++ {
		for i, c := range cuts {
			if set>>i&1 == 0 {
				continue
			}
			if end := soonest(c, ends[set&^(1<<i)]) + c.Picks; ends[set] == 0 || end < ends[set] {
				ends[set], last[set] = end, i
			}
		}
	}
	starts = make([]int, len(cuts))
	for set := sets - 1; set > 0; set &^= 1 << last[set] {
		starts[last[set]] = ends[set] - cuts[last[set]].Picks
	}
	return starts, ends[sets-1]
}

// begin returns the first pick from one on that is the pick Begin of the repeat.
func begin(repeat int, c api.SeamCut, from int) int {
	return from + ((c.Begin-from)%repeat+repeat)%repeat
}

// goodPicks is the rule that lengths have no bad pick; these ascend.
func goodPicks(repeat int, bad []int) rule {
	return func(c api.SeamCut, from int) int {
		start := begin(repeat, c, from)
		for _, pick := range bad {
			if areFrom(start, start+c.Picks-1, pick) {
				start = begin(repeat, c, pick+1)
			}
		}
		return start
	}
}

// piecesFor returns the fewest pieces for lengths each of which can be cut out of one.
// The pieces are laid out one after another, with room between them so that each begins with the pick 0 of the repeat.
func piecesFor(repeat, picks int, cuts []api.SeamCut) int {
	room := (picks + repeat - 1) / repeat * repeat
	inPieces := func(c api.SeamCut, from int) int {
		start := begin(repeat, c, from)
		if start%room+c.Picks > picks {
			start = (start/room+1)*room + c.Begin
		}
		return start
	}
	_, end := layOut(cuts, inPieces)
	return (end + room - 1) / room
}
