package tie

import (
	"slices"
	"strings"

	"griffe/api"
)

// The bytes of a cloth: a warp is lifted, or it is not.
const (
	up   = 'x'
	down = '.'
)

// checkCloth returns the error of a cloth that has a width.
func checkCloth(cloth []string, isWidth func(warps int) bool) api.Errno {
	if len(cloth) > api.MaxPicks {
		return api.ErrLong
	}
	if len(cloth) == 0 {
		return api.ErrNone
	}
	width := len(cloth[0])
	wrong := func(warps string) bool { return len(warps) != width || !isPick(warps) }
	if !isWidth(width) || slices.ContainsFunc(cloth, wrong) {
		return api.ErrForm
	}
	return api.OK
}

// isPick reports whether all bytes are those of a cloth.
func isPick(warps string) bool {
	for warp := range len(warps) {
		if warps[warp] != up && warps[warp] != down {
			return false
		}
	}
	return true
}

// fewest returns the harness with the fewest hooks that can weave a cloth: alike warps have one hook.
func fewest(cloth []string) (harness, api.Errno) {
	if e := checkCloth(cloth, func(warps int) bool { return areFrom(1, api.MaxTieWarps, warps) }); e != api.OK {
		return harness{}, e
	}
	var h harness
	hooks := map[string]int{}
	for warp := range len(cloth[0]) {
		along := column(cloth, warp)
		hook, ok := hooks[along]
		if !ok {
			hook = len(hooks)
			hooks[along] = hook
		}
		h.Warps = append(h.Warps, hook)
	}
	if len(hooks) > api.MaxHooks {
		return harness{}, api.ErrFull
	}
	h.Hooks = len(hooks)
	return h, api.OK
}

// column returns a warp from pick to pick.
func column(cloth []string, warp int) string {
	var points strings.Builder
	for _, warps := range cloth {
		points.WriteByte(warps[warp])
	}
	return points.String()
}

// wovenPick is the warps of a pick of a cloth, with its number.
type wovenPick struct {
	at    int
	warps string
}

// floats yields all floats along the pick by their first warps.
func (p wovenPick) floats(yield func(api.PointFloat) bool) {
	if p.alike() {
		yield(p.float(0, api.PointEndless))
		return
	}
	for warp := range len(p.warps) {
		before := (warp + len(p.warps) - 1) % len(p.warps)
		if p.warps[before] == p.warps[warp] {
			continue
		}
		if !yield(p.float(warp, p.length(warp))) {
			return
		}
	}
}

func (p wovenPick) alike() bool {
	return strings.Count(p.warps, p.warps[:1]) == len(p.warps)
}

// length returns how many warps from one on are alike; not all of the pick may be.
func (p wovenPick) length(first int) int {
	n := 1
	for p.warps[(first+n)%len(p.warps)] == p.warps[first] {
		n++
	}
	return n
}

func (p wovenPick) float(first, length int) api.PointFloat {
	return api.PointFloat{Pick: p.at, Hook: first, Length: length, Lifted: p.warps[first] == up}
}
