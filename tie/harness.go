package tie

import (
	"slices"

	"griffe/api"
)

// group is warps side by side whose hooks are looked at.
type group struct{ api.TieGroup }

// isOf reports whether a group is one of so many hooks.
func (g group) isOf(hooks int) bool {
	isWay := g.Way == api.TieStraight || g.Way == api.TiePoint
	return isWay && areFrom(0, hooks-1, g.First, g.Last) && areFrom(1, api.MaxTieTimes, g.Times)
}

// hooks yields the hooks of the warps, one after the other.
func (g group) hooks(yield func(hook int) bool) {
	far, step := g.Last-g.First, 1
	if far < 0 {
		far, step = -far, -1
	}
	once := far + 1
	if g.Way == api.TiePoint && far > 1 {
		once = 2 * far
	}
	for warp := range once * g.Times {
		there := warp % once
		back := 2*far - there
		if !yield(g.First + step*min(there, back)) {
			return
		}
	}
}

// harness is hooks and warps that weave.
type harness struct{ api.TieHarness }

// firsts returns the first warp of each hook that has one.
func (h harness) firsts() map[int]int {
	first := map[int]int{}
	for warp, hook := range slices.Backward(h.Warps) {
		first[hook] = warp
	}
	return first
}

// weave returns the cloth of rows.
func (h harness) weave(rows []int) []string {
	var cloth []string
	for _, row := range rows {
		warps := make([]byte, len(h.Warps))
		for warp := range warps {
			warps[warp] = down
			if row>>h.Warps[warp]&1 == 1 {
				warps[warp] = up
			}
		}
		cloth = append(cloth, string(warps))
	}
	return cloth
}

// design returns the design of which each hook is lifted where one of its warps is.
func (h harness) design(cloth []string) api.Design {
	d := api.Design{Hooks: h.Hooks}
	for _, warps := range cloth {
		row := 0
		for warp := range len(warps) {
			if warps[warp] == up {
				row |= 1 << h.Warps[warp]
			}
		}
		d.Rows = append(d.Rows, row)
	}
	return d
}

// part returns the first pick and warp at which a warp is not like the first one of its hook, and this one, if there are any.
func (h harness) part(cloth []string) (pick, warp, other int, parts bool) {
	first := h.firsts()
	for pick, warps := range cloth {
		for warp := range len(warps) {
			if other := first[h.Warps[warp]]; warps[warp] != warps[other] {
				return pick, warp, other, true
			}
		}
	}
	return 0, 0, 0, false
}

// around returns the hook of a warp that is at most one time round the edge away.
func (h harness) around(warp int) int {
	size := len(h.Warps)
	return h.Warps[(warp+size)%size]
}

// isLike reports whether each warp is tied to the same hook as another one.
func (h harness) isLike(other func(warp int) int) bool {
	for warp := range len(h.Warps) {
		if h.Warps[warp] != h.around(other(warp)) {
			return false
		}
	}
	return true
}

// worst returns the length of the longest float, and a row with it, where lifts returns a bound row that lifts some hooks, if there is one. The length is 0 if there is no bound row.
//
// Floats that are not lifted need not be looked for: a row is bound if the one that lifts just the other hooks is.
// Nor need windows that are not longer than the longest one so far: a row that lifts a window lifts each part of it.
func (h harness) worst(lifts func(hooks int) (row int, ok bool)) (longest, row int) {
	for first := range len(h.Warps) {
		for longest < len(h.Warps) {
			r, ok := lifts(h.window(first, longest+1))
			if !ok {
				break
			}
			longest, row = longest+1, r
		}
	}
	if longest == len(h.Warps) {
		longest = api.PointEndless
	}
	return longest, row
}

// window returns the row of the hooks of so many warps from one on.
func (h harness) window(first, length int) int {
	row := 0
	for warp := range length {
		row |= 1 << h.around(first+warp)
	}
	return row
}
