package point

import (
	"slices"

	"griffe/api"
)

// paint returns the design whose points are lifted where a condition says so.
func paint(picks, hooks int, lifted func(pick, hook int) bool) api.Design {
	rows := make([]int, picks)
	for pick := range picks {
		for hook := range hooks {
			if lifted(pick, hook) {
				rows[pick] |= 1 << hook
			}
		}
	}
	return api.Design{Hooks: hooks, Rows: rows}
}

// Mirror returns a design with its hooks the other way round.
func Mirror(d api.Design) (api.Design, api.Errno) {
	if e := check(d); e != api.OK {
		return api.Design{}, e
	}
	return paint(len(d.Rows), d.Hooks, func(pick, hook int) bool {
		return paper{d}.lifted(pick, d.Hooks-1-hook)
	}), api.OK
}

// Flip returns a design with its picks the other way round.
func Flip(d api.Design) (api.Design, api.Errno) {
	if e := check(d); e != api.OK {
		return api.Design{}, e
	}
	return paint(len(d.Rows), d.Hooks, func(pick, hook int) bool {
		return paper{d}.lifted(len(d.Rows)-1-pick, hook)
	}), api.OK
}

// Back returns the back of a design.
func Back(d api.Design) (api.Design, api.Errno) {
	if e := check(d); e != api.OK {
		return api.Design{}, e
	}
	return paint(len(d.Rows), d.Hooks, func(pick, hook int) bool {
		return !paper{d}.lifted(pick, hook)
	}), api.OK
}

// Shift returns a design that was shifted.
func Shift(d api.Design, picks, hooks int) (api.Design, api.Errno) {
	if e := check(d); e != api.OK {
		return api.Design{}, e
	}
	if picks < 0 || picks >= len(d.Rows) || hooks < 0 || hooks >= d.Hooks {
		return api.Design{}, api.ErrRange
	}
	return paper{d}.shifted(picks, hooks), api.OK
}

// shifted returns the design so many picks and hooks further on.
func (p paper) shifted(picks, hooks int) api.Design {
	rows := len(p.Rows)
	return paint(rows, p.Hooks, func(pick, hook int) bool {
		return p.lifted((pick+rows-picks)%rows, (hook+p.Hooks-hooks)%p.Hooks)
	})
}

// Beside returns two designs side by side.
func Beside(a, b api.Design) (api.Design, api.Errno) {
	if e := check(a, b); e != api.OK {
		return api.Design{}, e
	}
	if len(a.Rows) != len(b.Rows) {
		return api.Design{}, api.ErrForm
	}
	hooks := a.Hooks + b.Hooks
	if hooks > api.MaxHooks {
		return api.Design{}, api.ErrFull
	}
	return paint(len(a.Rows), hooks, func(pick, hook int) bool {
		if hook < a.Hooks {
			return paper{a}.lifted(pick, hook)
		}
		return paper{b}.lifted(pick, hook-a.Hooks)
	}), api.OK
}

// Above returns two designs one after the other.
func Above(a, b api.Design) (api.Design, api.Errno) {
	if e := check(a, b); e != api.OK {
		return api.Design{}, e
	}
	if a.Hooks != b.Hooks {
		return api.Design{}, api.ErrForm
	}
	if len(a.Rows)+len(b.Rows) > api.MaxPicks {
		return api.Design{}, api.ErrFull
	}
	return api.Design{Hooks: a.Hooks, Rows: slices.Concat(a.Rows, b.Rows)}, api.OK
}

// Reflect returns the point repeat of a design.
func Reflect(d api.Design) (api.Design, api.Errno) {
	if e := check(d); e != api.OK {
		return api.Design{}, e
	}
	hooks := d.Hooks
	if d.Hooks > 2 {
		hooks = 2*d.Hooks - 2
	}
	if hooks > api.MaxHooks {
		return api.Design{}, api.ErrFull
	}
	return paint(len(d.Rows), hooks, func(pick, hook int) bool {
		if hook >= d.Hooks {
			hook = hooks - hook
		}
		return paper{d}.lifted(pick, hook)
	}), api.OK
}

// Least returns the least repeat of a design.
func Least(d api.Design) (picks, hooks int, e api.Errno) {
	if e := check(d); e != api.OK {
		return 0, 0, e
	}
	p := paper{d}
	repeatsAfter := func(picks, hooks int) bool {
		return slices.Equal(p.shifted(picks, hooks).Rows, d.Rows)
	}
	picks = leastPart(len(d.Rows), func(part int) bool { return repeatsAfter(part, 0) })
	hooks = leastPart(d.Hooks, func(part int) bool { return repeatsAfter(0, part) })
	return picks, hooks, api.OK
}

// leastPart returns the least divisor of a number with which something repeats; it is the number itself if there is no smaller one.
func leastPart(whole int, repeats func(part int) bool) int {
	for part := 1; part < whole; part++ {
		if whole%part == 0 && repeats(part) {
			return part
		}
	}
	return whole
}

// Lay lays a figure on a ground.
func Lay(ground, figure, mask api.Design) (api.Design, api.Errno) {
	if e := check(ground, figure, mask); e != api.OK {
		return api.Design{}, e
	}
	if !sameSize(figure, mask) {
		return api.Design{}, api.ErrForm
	}
	return paint(len(figure.Rows), figure.Hooks, func(pick, hook int) bool {
		if (paper{mask}).lifted(pick, hook) {
			return paper{figure}.lifted(pick, hook)
		}
		return paper{ground}.lifted(pick%len(ground.Rows), hook%ground.Hooks)
	}), api.OK
}
