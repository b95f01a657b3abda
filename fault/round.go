package fault

import "griffe/api"

// The texts of a warp that is lifted, and of one that is not.
const (
	lifted    = "x"
	notLifted = "."
)

// round is the cloth that is woven while the chain goes round once. Whatever is woven afterwards is the same again.
type round []string

// cloth returns so many picks.
func (r round) cloth(picks int) []string {
	var cloth []string
	for pick := range picks {
		cloth = append(cloth, r[pick%len(r)])
	}
	return cloth
}

// isLifted reports whether a warp is lifted at a pick.
func (r round) isLifted(pick, warp int) bool {
	return r[pick%len(r)][warp] == lifted[0]
}

// agrees reports whether all sights are as they were seen.
func (r round) agrees(sights ...api.FaultSight) bool {
	for _, s := range sights {
		if r.isLifted(s.Pick, s.Warp) != s.Lifted {
			return false
		}
	}
	return true
}

// pair is two cloths with as many picks and warps.
type pair [2][]string

// places yields the picks and warps at which both differ.
func (p pair) places(yield func(pick, warp int) bool) {
	for pick, warps := range p[0] {
		others := p[1][pick]
		if warps == others {
			continue
		}
		for warp := range len(warps) {
			if warps[warp] != others[warp] && !yield(pick, warp) {
				return
			}
		}
	}
}

// first returns the first place at which both differ, if there is one.
func (p pair) first() (pick, warp int, differ bool) {
	for pick, warp := range p.places {
		return pick, warp, true
	}
	return 0, 0, false
}
