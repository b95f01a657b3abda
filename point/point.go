// Package point is about designs on squared paper: their floats, binding points, repeats and layers (chapter 1).
package point

import "griffe/api"

// Check returns the error of a design.
func Check(d api.Design) api.Errno {
	if d.Hooks < 1 || d.Hooks > api.MaxHooks {
		return api.ErrArg
	}
	if len(d.Rows) > api.MaxPicks {
		return api.ErrLong
	}
	if len(d.Rows) == 0 {
		return api.ErrNone
	}
	if !areRows(d.Hooks, d.Rows) {
		return api.ErrArg
	}
	return api.OK
}

// Floats returns all floats that are longer than a bound.
func Floats(d api.Design, along api.PointAlong, bound int) ([]api.PointFloat, api.Errno) {
	if e := check(d); e != api.OK {
		return nil, e
	}
	if along != api.PointWeft && along != api.PointWarp {
		return nil, api.ErrArg
	}
	if bound < 0 || bound > api.PointEndless {
		return nil, api.ErrRange
	}
	return paper{d}.floats(along, longerThan(bound)), api.OK
}

// side is a side of the cloth, as floats show it: along what they lie, and whether they are lifted.
type side struct {
	along  api.PointAlong
	lifted bool
}

// Longest returns the lengths of the longest floats.
func Longest(d api.Design) (api.PointLongest, api.Errno) {
	if e := check(d); e != api.OK {
		return api.PointLongest{}, e
	}
	longest := map[side]int{}
	for _, along := range [...]api.PointAlong{api.PointWeft, api.PointWarp} {
		for _, f := range (paper{d}).floats(along, longerThan(0)) {
			s := side{along, f.Lifted}
			longest[s] = max(longest[s], f.Length)
		}
	}
	return api.PointLongest{
		WeftFace: longest[side{api.PointWeft, false}],
		WeftBack: longest[side{api.PointWeft, true}],
		WarpFace: longest[side{api.PointWarp, true}],
		WarpBack: longest[side{api.PointWarp, false}],
	}, api.OK
}

// Bind returns the design with the fewest changes of which no float along a pick is longer than a bound.
func Bind(d api.Design, fixed []int, bound int) (after api.Design, changes int, e api.Errno) {
	if e := check(d); e != api.OK {
		return api.Design{}, 0, e
	}
	if len(fixed) != len(d.Rows) {
		return api.Design{}, 0, api.ErrForm
	}
	if !areRows(d.Hooks, fixed) {
		return api.Design{}, 0, api.ErrArg
	}
	if !isBound(bound) {
		return api.Design{}, 0, api.ErrRange
	}
	after.Hooks = d.Hooks
	for at := range d.Rows {
		best := binding{paper{d}.pick(at), fixed[at], bound}.bind()
		if best >= never {
			return api.Design{}, 0, api.ErrState
		}
		after.Rows = append(after.Rows, best.row())
		changes += best.changes()
	}
	return after, changes, api.OK
}

// Proof returns windows in each of which a point must be changed.
func Proof(d api.Design, bound int) ([]api.PointFloat, api.Errno) {
	if e := check(d); e != api.OK {
		return nil, e
	}
	if !isBound(bound) {
		return nil, api.ErrRange
	}
	var windows []api.PointFloat
	size := bound + 1
	for _, f := range (paper{d}).floats(api.PointWeft, longerThan(bound)) {
		for at := range min(f.Length, d.Hooks) / size {
			first := (f.Hook + at*size) % d.Hooks
			windows = append(windows, api.PointFloat{Pick: f.Pick, Hook: first, Length: size, Lifted: f.Lifted})
		}
	}
	return windows, api.OK
}

// Differ returns how many points of two designs are different, and the first one.
func Differ(a, b api.Design) (many, pick, hook int, e api.Errno) {
	if e := check(a, b); e != api.OK {
		return 0, 0, 0, e
	}
	if !sameSize(a, b) {
		return 0, 0, 0, api.ErrForm
	}
	for at := range a.Rows {
		for h := range a.Hooks {
			if (paper{a}).lifted(at, h) == (paper{b}).lifted(at, h) {
				continue
			}
			if many == 0 {
				pick, hook = at, h
			}
			many++
		}
	}
	return many, pick, hook, api.OK
}

// check returns the error of the first design that has one.
func check(designs ...api.Design) api.Errno {
	for _, d := range designs {
		if e := Check(d); e != api.OK {
			return e
		}
	}
	return api.OK
}

// areRows reports whether all rows are of no other hooks than those.
func areRows(hooks int, rows []int) bool {
	for _, row := range rows {
		if row < 0 || row >= 1<<hooks {
			return false
		}
	}
	return true
}

func isBound(bound int) bool { return bound >= 1 && bound <= api.MaxHooks }

func sameSize(a, b api.Design) bool { return a.Hooks == b.Hooks && len(a.Rows) == len(b.Rows) }
