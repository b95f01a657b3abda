package fault

import (
	"slices"

	"griffe/api"
	"griffe/point"
	"griffe/tie"
)

// loom is a loom that weaves, whole or with damages.
type loom struct{ api.FaultLoom }

// canHave reports whether damages are of kinds that there are, and about what the loom has; their other fields must be zero.
func (l loom) canHave(damages ...api.FaultDamage) bool {
	for _, d := range damages {
		about, ok := fieldsOf(d)
		if !ok || d != about || !l.has(d) {
			return false
		}
	}
	return true
}

// fieldsOf returns a damage with just the fields that its kind has, if there is this kind.
func fieldsOf(d api.FaultDamage) (about api.FaultDamage, ok bool) {
	about.Kind = d.Kind
	switch d.Kind {
	case api.FaultCard:
		about.Pick, about.Hook = d.Pick, d.Hook
	case api.FaultNeedle:
		about.Hook, about.Up = d.Hook, d.Up
	case api.FaultTurn, api.FaultSwap:
		about.Pick = d.Pick
	case api.FaultThread:
		about.Warp = d.Warp
	default:
		return api.FaultDamage{}, false
	}
	return about, true
}

// has reports whether there are the card, the hook and the warp of a damage. Fields that are zero do no harm: each loom has those.
func (l loom) has(d api.FaultDamage) bool {
	return isBelow(len(l.Design.Rows), d.Pick) && isBelow(l.Design.Hooks, d.Hook) && isBelow(len(l.Harness.Warps), d.Warp)
}

// hasPlaces reports whether sights are of picks that may be looked at, and of warps of the loom.
func (l loom) hasPlaces(sights ...api.FaultSight) bool {
	for _, s := range sights {
		if !isBelow(api.MaxFaultPicks, s.Pick) || !isBelow(len(l.Harness.Warps), s.Warp) {
			return false
		}
	}
	return true
}

func isBelow(end, n int) bool { return n >= 0 && n < end }

// damages returns all damages that the loom can have, whether they show or not, in the order of All.
func (l loom) damages() []api.FaultDamage {
	var all []api.FaultDamage
	add := func(d api.FaultDamage) { all = append(all, d) }
	cards := len(l.Design.Rows)
	for card := range cards {
		for hook := range l.Design.Hooks {
			add(api.FaultDamage{Kind: api.FaultCard, Pick: card, Hook: hook})
		}
	}
	for hook := range l.Design.Hooks {
		add(api.FaultDamage{Kind: api.FaultNeedle, Hook: hook})
		add(api.FaultDamage{Kind: api.FaultNeedle, Hook: hook, Up: true})
	}
	for _, kind := range [...]api.FaultKind{api.FaultTurn, api.FaultSwap} {
		for card := range cards {
			add(api.FaultDamage{Kind: kind, Pick: card})
		}
	}
	for warp := range l.Harness.Warps {
		add(api.FaultDamage{Kind: api.FaultThread, Warp: warp})
	}
	return all
}

// showing yields all damages that show, each with what it weaves.
func (l loom) showing(yield func(d api.FaultDamage, woven round) bool) {
	whole := l.round()
	for _, d := range l.damages() {
		woven := l.round(d)
		if !slices.Equal(woven, whole) && !yield(d, woven) {
			return
		}
	}
}

// rounds returns for each damage what the loom weaves with it alone.
func (l loom) rounds(damages ...api.FaultDamage) []round {
	var all []round
	for _, d := range damages {
		all = append(all, l.round(d))
	}
	return all
}

// round returns what the loom weaves with all damages.
func (l loom) round(damages ...api.FaultDamage) round {
	w := worn{loom: l, rows: slices.Clone(l.Design.Rows)}
	does := w.does()
	for _, d := range damages {
		does[d.Kind](d)
	}
	return w.weave()
}

// worn is a loom with the rows that its cards have now, the hooks whose needles are stuck, those of them that are up, and its broken warps.
type worn struct {
	loom
	rows      []int
	stuck, up int
	broken    []int
}

// does returns what a damage of each kind does. Needles and warps are kept for what is woven in the end, when all cards are as they come.
func (w *worn) does() map[api.FaultKind]func(d api.FaultDamage) {
	return map[api.FaultKind]func(d api.FaultDamage){
		api.FaultCard: func(d api.FaultDamage) { w.rows[d.Pick] ^= 1 << d.Hook },
		api.FaultNeedle: func(d api.FaultDamage) {
			w.stuck |= 1 << d.Hook
			w.up &^= 1 << d.Hook
			if d.Up {
				w.up |= 1 << d.Hook
			}
		},
		api.FaultTurn: func(d api.FaultDamage) { w.rows[d.Pick] = w.mirror(w.rows[d.Pick]) },
		api.FaultSwap: func(d api.FaultDamage) {
			next := (d.Pick + 1) % len(w.rows)
			w.rows[d.Pick], w.rows[next] = w.rows[next], w.rows[d.Pick]
		},
		api.FaultThread: func(d api.FaultDamage) { w.broken = append(w.broken, d.Warp) },
	}
}

// mirror returns the row of a card that is turned.
func (w *worn) mirror(row int) int {
	// No error: the row is one of the hooks of a design that was checked.
	d, _ := point.Mirror(api.Design{Hooks: w.Design.Hooks, Rows: []int{row}})
	return d.Rows[0]
}

// weave returns what is woven in a round.
func (w *worn) weave() round {
	d := api.Design{Hooks: w.Design.Hooks}
	for _, row := range w.rows {
		d.Rows = append(d.Rows, row&^w.stuck|w.up)
	}
	// No error: harness and design were checked, and damages lead to rows of the same hooks.
	woven, _ := tie.Weave(w.Harness, d)
	for _, warp := range w.broken {
		for pick, warps := range woven {
			woven[pick] = warps[:warp] + notLifted + warps[warp+1:]
		}
	}
	return woven
}
