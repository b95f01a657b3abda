package point

import "griffe/api"

// paper is a design whose points are looked at.
type paper struct{ api.Design }

// lifted reports whether a point is lifted.
func (p paper) lifted(pick, hook int) bool { return p.Rows[pick]>>hook&1 == 1 }

// pick returns the points along a pick.
func (p paper) pick(at int) ring { return ring{p.Hooks, p.Rows[at]} }

// hook returns the points along a hook.
func (p paper) hook(at int) ring {
	points := 0
	for pick, row := range p.Rows {
		points |= row >> at & 1 << pick
	}
	return ring{len(p.Rows), points}
}

// floats returns the floats along picks or hooks whose lengths are wanted.
func (p paper) floats(along api.PointAlong, wanted func(length int) bool) []api.PointFloat {
	var l []api.PointFloat
	keep := func(pick, hook int, r run) {
		if wanted(r.length) {
			l = append(l, api.PointFloat{Pick: pick, Hook: hook, Length: r.length, Lifted: r.lifted})
		}
	}
	if along == api.PointWeft {
		for pick := range p.Rows {
			for r := range p.pick(pick).runs {
				keep(pick, r.first, r)
			}
		}
		return l
	}
	for hook := range p.Hooks {
		for r := range p.hook(hook).runs {
			keep(r.first, hook, r)
		}
	}
	return l
}

func longerThan(bound int) func(length int) bool {
	return func(length int) bool { return length > bound }
}

// ring is points that go round; the point at a place is the bit of that place.
type ring struct{ size, points int }

// run is alike points of a ring one after another.
type run struct {
	first, length int
	lifted        bool
}

func (r ring) lifted(at int) bool { return r.points>>at&1 == 1 }

func (r ring) alike() bool { return r.points == 0 || r.points == 1<<r.size-1 }

// runs yields all runs by their first points.
func (r ring) runs(yield func(run) bool) {
	if r.alike() {
		yield(run{0, api.PointEndless, r.lifted(0)})
		return
	}
	for at := range r.size {
		before := (at + r.size - 1) % r.size
		if r.lifted(before) == r.lifted(at) {
			continue
		}
		if !yield(run{at, r.length(at), r.lifted(at)}) {
			return
		}
	}
}

// length returns how many points from one on are alike; not all of the ring may be.
func (r ring) length(first int) int {
	n := 1
	for r.lifted((first+n)%r.size) == r.lifted(first) {
		n++
	}
	return n
}
