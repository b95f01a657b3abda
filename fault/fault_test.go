package fault_test

import (
	"math/rand/v2"
	"slices"
	"strings"
	"testing"

	"griffe/api"
	"griffe/fault"
	"griffe/tie"
)

// The damages of each kind.
func card(pick, hook int) api.FaultDamage {
	return api.FaultDamage{Kind: api.FaultCard, Pick: pick, Hook: hook}
}

func needle(hook int, up bool) api.FaultDamage {
	return api.FaultDamage{Kind: api.FaultNeedle, Hook: hook, Up: up}
}

func turn(pick int) api.FaultDamage { return api.FaultDamage{Kind: api.FaultTurn, Pick: pick} }

func swap(pick int) api.FaultDamage { return api.FaultDamage{Kind: api.FaultSwap, Pick: pick} }

func thread(warp int) api.FaultDamage { return api.FaultDamage{Kind: api.FaultThread, Warp: warp} }

// list returns damages as a list.
func list(damages ...api.FaultDamage) []api.FaultDamage { return damages }

func sight(pick, warp int, lifted bool) api.FaultSight {
	return api.FaultSight{Pick: pick, Warp: warp, Lifted: lifted}
}

// loom returns a loom of so many hooks with warps and rows.
func loom(hooks int, warps []int, rows ...int) api.FaultLoom {
	return api.FaultLoom{Harness: api.TieHarness{Hooks: hooks, Warps: warps}, Design: api.Design{Hooks: hooks, Rows: rows}}
}

// example is the loom of the chapter's examples.
func example() api.FaultLoom { return loom(4, []int{0, 1, 2, 3, 2, 1}, 1, 6) }

// largest is a loom at all limits.
func largest() api.FaultLoom {
	r := source(99)
	l := loom(api.MaxHooks, nil)
	for warp := range api.MaxTieWarps {
		l.Harness.Warps = append(l.Harness.Warps, warp%api.MaxHooks)
	}
	for range api.MaxPicks {
		l.Design.Rows = append(l.Design.Rows, r.IntN(1<<api.MaxHooks))
	}
	return l
}

func source(seed uint64) *rand.Rand { return rand.New(rand.NewPCG(seed, 120)) }

// samples returns looms: most of them small, some with alike rows, with hooks without warps, or with many warps and picks.
func samples(r *rand.Rand, many int) []api.FaultLoom {
	var all []api.FaultLoom
	for at := range many {
		hooks, warps, rows := 1+r.IntN(5), 1+r.IntN(8), 1+r.IntN(5)
		if at%10 == 9 {
			hooks, warps, rows = 1+r.IntN(api.MaxHooks), 1+r.IntN(api.MaxTieWarps), 1+r.IntN(api.MaxPicks)
		}
		l := loom(hooks, nil)
		for range warps {
			l.Harness.Warps = append(l.Harness.Warps, r.IntN(hooks))
		}
		for range rows {
			row := r.IntN(1 << hooks)
			if len(l.Design.Rows) > 0 && r.IntN(3) == 0 {
				row = l.Design.Rows[0]
			}
			l.Design.Rows = append(l.Design.Rows, row)
		}
		all = append(all, l)
	}
	return all
}

// anyDamage returns a damage that a loom can have, whether it shows or not.
func anyDamage(r *rand.Rand, l api.FaultLoom) api.FaultDamage {
	pick, hook := r.IntN(len(l.Design.Rows)), r.IntN(l.Design.Hooks)
	switch r.IntN(5) {
	case 0:
		return card(pick, hook)
	case 1:
		return needle(hook, r.IntN(2) == 0)
	case 2:
		return turn(pick)
	case 3:
		return swap(pick)
	}
	return thread(r.IntN(len(l.Harness.Warps)))
}

// anyDamages returns so many damages that a loom can have.
func anyDamages(r *rand.Rand, l api.FaultLoom, many int) []api.FaultDamage {
	var all []api.FaultDamage
	for range many {
		all = append(all, anyDamage(r, l))
	}
	return all
}

// isUp reports whether a warp is lifted at a pick with damages. It follows the point back, from the cloth to the card that was punched.
func isUp(l api.FaultLoom, damages []api.FaultDamage, pick, warp int) bool {
	if slices.Contains(damages, thread(warp)) {
		return false
	}
	hook, rows := l.Harness.Warps[warp], len(l.Design.Rows)
	for _, d := range slices.Backward(damages) {
		if d.Kind == api.FaultNeedle && d.Hook == hook {
			return d.Up
		}
	}
	place, other := pick%rows, false
	for _, d := range slices.Backward(damages) {
		next := (d.Pick + 1) % rows
		switch {
		case d.Kind == api.FaultSwap && place == d.Pick:
			place = next
		case d.Kind == api.FaultSwap && place == next:
			place = d.Pick
		case d.Kind == api.FaultTurn && place == d.Pick:
			hook = l.Design.Hooks - 1 - hook
		case d == card(place, hook):
			other = !other
		}
	}
	return l.Design.Rows[place]>>hook&1 == 1 != other
}

// naive returns so many picks of the cloth with damages, point by point.
func naive(l api.FaultLoom, damages []api.FaultDamage, picks int) []string {
	var cloth []string
	for pick := range picks {
		warps := ""
		for warp := range l.Harness.Warps {
			if isUp(l, damages, pick, warp) {
				warps += "x"
			} else {
				warps += "."
			}
		}
		cloth = append(cloth, warps)
	}
	return cloth
}

// naiveRound returns the cloth of one round with a damage alone.
func naiveRound(l api.FaultLoom, d api.FaultDamage) []string {
	return naive(l, list(d), len(l.Design.Rows))
}

// invalidLooms is looms with their errors.
func invalidLooms() map[string]struct {
	l api.FaultLoom
	e api.Errno
} {
	type wrong = struct {
		l api.FaultLoom
		e api.Errno
	}
	changed := func(change func(l *api.FaultLoom)) api.FaultLoom {
		l := example()
		change(&l)
		return l
	}
	return map[string]wrong{
		"nothing":                 {api.FaultLoom{}, api.ErrArg},
		"no hooks":                {changed(func(l *api.FaultLoom) { l.Harness.Hooks, l.Design.Rows = 0, nil }), api.ErrArg},
		"too many hooks":          {changed(func(l *api.FaultLoom) { l.Harness.Hooks, l.Harness.Warps, l.Design.Rows = 25, nil, nil }), api.ErrArg},
		"too many warps":          {changed(func(l *api.FaultLoom) { l.Harness.Warps, l.Design.Hooks = make([]int, 97), 0 }), api.ErrLong},
		"no warps":                {changed(func(l *api.FaultLoom) { l.Harness.Warps, l.Design.Hooks = nil, 0 }), api.ErrNone},
		"empty warps":             {changed(func(l *api.FaultLoom) { l.Harness.Warps, l.Design.Rows = []int{}, make([]int, 61) }), api.ErrNone},
		"a warp of no hook":       {changed(func(l *api.FaultLoom) { l.Harness.Warps, l.Design.Rows = []int{0, 4}, nil }), api.ErrArg},
		"a warp below":            {changed(func(l *api.FaultLoom) { l.Harness.Warps, l.Design.Hooks = []int{-1}, 5 }), api.ErrArg},
		"a design without hooks":  {changed(func(l *api.FaultLoom) { l.Design.Hooks, l.Design.Rows = 0, nil }), api.ErrArg},
		"a design of many hooks":  {changed(func(l *api.FaultLoom) { l.Design.Hooks, l.Design.Rows = 25, make([]int, 61) }), api.ErrArg},
		"too many rows":           {changed(func(l *api.FaultLoom) { l.Design.Hooks, l.Design.Rows = 3, make([]int, 61) }), api.ErrLong},
		"no rows":                 {changed(func(l *api.FaultLoom) { l.Design.Hooks, l.Design.Rows = 3, nil }), api.ErrNone},
		"empty rows":              {changed(func(l *api.FaultLoom) { l.Design.Rows = []int{} }), api.ErrNone},
		"a row too large":         {changed(func(l *api.FaultLoom) { l.Design.Rows = []int{1, 16} }), api.ErrArg},
		"a row below":             {changed(func(l *api.FaultLoom) { l.Design.Hooks, l.Design.Rows = 3, []int{-1, 1} }), api.ErrArg},
		"a design of fewer hooks": {changed(func(l *api.FaultLoom) { l.Design.Hooks = 3 }), api.ErrForm},
		"a design of more hooks":  {changed(func(l *api.FaultLoom) { l.Design.Hooks = 5 }), api.ErrForm},
		"a harness of more hooks": {changed(func(l *api.FaultLoom) { l.Harness.Hooks = 24 }), api.ErrForm},
	}
}

// errorsOf returns the errors of all functions that have damages; a result beside an error is reported. Tell has the first and the last damage.
func errorsOf(t *testing.T, l api.FaultLoom, damages []api.FaultDamage, picks int) map[string]api.Errno {
	t.Helper()
	cloth, weave := fault.Weave(l, damages, picks)
	sights, wrong := fault.Wrong(l, damages, picks)
	apart, of := fault.Apart(l, damages)
	groups, grouped := fault.Groups(l, damages)
	pick, warp, left, look := fault.Look(l, damages, picks)
	all := map[string]api.Errno{"Check": fault.Check(l, damages), "Weave": weave, "Wrong": wrong, "Apart": of, "Groups": grouped, "Look": look}
	if weave != api.OK && len(cloth) != 0 || wrong != api.OK && len(sights) != 0 || of != api.OK && apart != 0 || grouped != api.OK && len(groups) != 0 || look != api.OK && (pick != 0 || warp != 0 || left != 0) {
		t.Error("results beside errors", all, cloth, sights, apart, groups, pick, warp, left)
	}
	return all
}

// tellError returns the error of Tell; a result beside it is reported.
func tellError(t *testing.T, l api.FaultLoom, a, b api.FaultDamage) api.Errno {
	t.Helper()
	pick, warp, e := fault.Tell(l, a, b)
	if e != api.OK && (pick != 0 || warp != 0) {
		t.Error("results beside an error", pick, warp, e)
	}
	return e
}

// P5.1: looms and damages up to their limits.
func TestCheck(t *testing.T) {
	single := loom(1, []int{0}, 1)
	for _, c := range []struct {
		l       api.FaultLoom
		damages []api.FaultDamage
	}{
		{example(), nil},
		{example(), list(card(0, 0), card(1, 3), needle(0, false), needle(3, true), turn(0), turn(1), swap(0), swap(1), thread(0), thread(5))},
		{single, list(card(0, 0), needle(0, true), needle(0, false), turn(0), swap(0), thread(0))},
		{largest(), list(card(59, 23), needle(23, true), turn(59), swap(59), thread(95))},
		{example(), slices.Repeat(list(swap(1)), 100)},
		{loom(3, []int{2}, 0), list(needle(0, true), card(0, 1))},
	} {
		for name, e := range errorsOf(t, c.l, c.damages, 1) {
			if e != api.OK && !(name == "Look" && len(c.damages) == 0) {
				t.Error(c, name, e)
			}
		}
	}
}

// P5.1: the errors of a loom come first in all functions, in their order.
func TestLoomErrorsComeFirst(t *testing.T) {
	for name, c := range invalidLooms() {
		for _, damages := range [][]api.FaultDamage{nil, list(card(-1, -1)), make([]api.FaultDamage, 101)} {
			for f, e := range errorsOf(t, c.l, damages, 0) {
				if e != c.e {
					t.Error(name, f, e)
				}
			}
		}
		if e := tellError(t, c.l, card(0, 0), thread(-1)); e != c.e {
			t.Error(name, "Tell", e)
		}
		if all, e := fault.All(c.l); e != c.e || len(all) != 0 {
			t.Error(name, "All", all, e)
		}
		for _, sights := range [][]api.FaultSight{nil, {sight(-1, -1, true)}, make([]api.FaultSight, 61)} {
			if can, fine, e := fault.Can(c.l, sights); e != c.e || len(can) != 0 || fine {
				t.Error(name, "Can", can, fine, e)
			}
		}
	}
}

// P5.1, R8: damages that are not as the chapter says are an error in all functions that have damages, before those of other arguments.
func TestDamageErrors(t *testing.T) {
	const far, deep = 1<<63 - 1, -1 << 63
	all := func(kind api.FaultKind, up bool) api.FaultDamage {
		return api.FaultDamage{Kind: kind, Pick: 1, Hook: 1, Warp: 1, Up: up}
	}
	for _, d := range []api.FaultDamage{
		{}, {Kind: 6}, {Kind: -1}, {Kind: far}, {Kind: deep}, {Pick: 1}, {Kind: 6, Warp: 1},
		card(-1, 0), card(2, 0), card(0, -1), card(0, 4), card(far, 0), card(0, far), card(deep, deep),
		{Kind: api.FaultCard, Warp: 1}, {Kind: api.FaultCard, Up: true}, {Kind: api.FaultCard, Warp: -1},
		needle(-1, true), needle(4, true), needle(-1, false), needle(4, false), needle(far, true), needle(deep, false),
		{Kind: api.FaultNeedle, Pick: 1}, {Kind: api.FaultNeedle, Warp: 1, Up: true}, {Kind: api.FaultNeedle, Pick: -1},
		turn(-1), turn(2), turn(far), turn(deep), {Kind: api.FaultTurn, Hook: 1}, {Kind: api.FaultTurn, Warp: 1}, {Kind: api.FaultTurn, Up: true},
		swap(-1), swap(2), swap(far), swap(deep), {Kind: api.FaultSwap, Hook: 1}, {Kind: api.FaultSwap, Warp: 1}, {Kind: api.FaultSwap, Up: true},
		thread(-1), thread(6), thread(far), thread(deep), {Kind: api.FaultThread, Pick: 1}, {Kind: api.FaultThread, Hook: 1}, {Kind: api.FaultThread, Up: true},
		all(api.FaultCard, false), all(api.FaultNeedle, true), all(api.FaultTurn, false), all(api.FaultSwap, true), all(api.FaultThread, true),
	} {
		for _, damages := range [][]api.FaultDamage{list(d), list(card(0, 0), d, turn(0)), append(slices.Repeat(list(swap(0)), 99), d)} {
			for name, e := range errorsOf(t, example(), damages, 0) {
				if e != api.ErrArg {
					t.Error(damages, name, e)
				}
			}
		}
		for name, e := range errorsOf(t, example(), slices.Repeat(list(d), 101), 0) {
			if e != api.ErrLong {
				t.Error(d, name, e)
			}
		}
		if a, b := tellError(t, example(), d, card(0, 0)), tellError(t, example(), card(0, 0), d); a != api.ErrArg || b != api.ErrArg {
			t.Error(d, "Tell", a, b)
		}
	}
	for name, e := range errorsOf(t, example(), slices.Repeat(list(swap(0)), 101), 1) {
		if e != api.ErrLong {
			t.Error(name, e)
		}
	}
}

// P5.2, P5.3, P5.9: the number of picks, up to its limits.
func TestPicksErrors(t *testing.T) {
	for _, picks := range []int{0, -1, -1 << 63, 121, 1<<63 - 1} {
		for _, damages := range [][]api.FaultDamage{nil, list(card(0, 2))} {
			all := errorsOf(t, example(), damages, picks)
			for _, name := range []string{"Weave", "Wrong", "Look"} {
				if all[name] != api.ErrRange {
					t.Error(picks, damages, name, all[name])
				}
			}
		}
	}
	for _, picks := range []int{1, 2, 3, 60, 61, 119, 120} {
		for name, e := range errorsOf(t, example(), list(card(0, 2)), picks) {
			if e != api.OK {
				t.Error(picks, name, e)
			}
		}
		if cloth, _ := fault.Weave(example(), nil, picks); len(cloth) != picks {
			t.Error(picks, cloth)
		}
	}
}

// P5.2: the examples, rounds of the chain, and what damages do one after another.
func TestWeave(t *testing.T) {
	long := loom(4, []int{0, 1, 2, 3}, 1, 3, 4)
	for _, c := range []struct {
		l       api.FaultLoom
		damages []api.FaultDamage
		cloth   string
	}{
		{example(), nil, "x..... .xx.xx"},
		{example(), nil, "x....."},
		{example(), nil, "x..... .xx.xx x....."},
		{example(), list(card(0, 2)), "x.x.x. .xx.xx"},
		{example(), list(needle(1, false)), "x..... ..x.x."},
		{example(), list(turn(0)), "...x.. .xx.xx"},
		{example(), list(swap(0)), ".xx.xx x....."},
		{example(), list(swap(1)), ".xx.xx x....."},
		{example(), list(thread(4)), "x..... .xx..x"},
		{example(), list(card(0, 2)), "x.x.x. .xx.xx x.x.x. .xx.xx x.x.x."},
		{example(), list(needle(0, true)), "x..... xxx.xx x..... xxx.xx"},
		{long, nil, "x... xx.. ..x. x..."},
		{long, list(swap(2)), "..x. xx.. x... ..x."},
		{long, list(swap(0)), "xx.. x... ..x."},
		// In the order of the list: a card that is changed and then exchanged comes elsewhere; one that is exchanged and then changed does not.
		{long, list(card(0, 3), swap(0)), "xx.. x..x ..x."},
		{long, list(swap(0), card(0, 3)), "xx.x x... ..x."},
		{long, list(turn(0), swap(0)), "xx.. ...x ..x."},
		{long, list(swap(0), turn(0)), "..xx x... ..x."},
		{long, list(card(0, 1), turn(0)), "..xx xx.. ..x."},
		{long, list(turn(0), card(0, 1)), ".x.x xx.. ..x."},
		{long, list(swap(0), swap(1)), "xx.. ..x. x..."},
		{long, list(swap(1), swap(0)), "..x. x... xx.."},
		// Needles after all cards, of one hook the later one; warps after all needles.
		{long, list(needle(0, true), card(1, 0), turn(0)), "x..x xx.. x.x."},
		{long, list(needle(0, true), needle(0, false)), ".... .x.. ..x."},
		{long, list(needle(0, false), needle(0, true)), "x... xx.. x.x."},
		{long, list(needle(0, false), needle(1, true), needle(0, true)), "xx.. xx.. xxx."},
		{long, list(thread(0), needle(0, true), turn(2)), ".... .x.. .x.."},
		{example(), list(thread(1), thread(2), thread(1)), "x..... ....xx"},
		{loom(1, []int{0, 0}, 1), list(swap(0)), "xx xx xx"},
		{loom(1, []int{0, 0}, 1), list(turn(0), swap(0), card(0, 0), thread(1)), ".. .."},
		{loom(3, []int{2}, 1), list(card(0, 2), card(0, 1)), "x x"},
	} {
		want := strings.Fields(c.cloth)
		if cloth, e := fault.Weave(c.l, c.damages, len(want)); e != api.OK || !slices.Equal(cloth, want) {
			t.Error(c.damages, cloth, e, want)
		}
	}
}

// P5.2, P5.3: cloths with many damages, point by point, and all places that are wrong.
func TestWeaveByPoints(t *testing.T) {
	r := source(1)
	for _, l := range samples(r, 600) {
		damages, picks := anyDamages(r, l, r.IntN(9)), 1+r.IntN(120)
		want, whole := naive(l, damages, picks), naive(l, nil, picks)
		if cloth, e := fault.Weave(l, damages, picks); e != api.OK || !slices.Equal(cloth, want) {
			t.Fatal(l, damages, cloth, e, want)
		}
		var wrong []api.FaultSight
		for pick := range picks {
			for warp := range l.Harness.Warps {
				if want[pick][warp] != whole[pick][warp] {
					wrong = append(wrong, sight(pick, warp, want[pick][warp] == 'x'))
				}
			}
		}
		if sights, e := fault.Wrong(l, damages, picks); e != api.OK || !slices.Equal(sights, wrong) {
			t.Fatal(l, damages, picks, sights, e, wrong)
		}
	}
	l := largest()
	damages := anyDamages(r, l, api.MaxFaultDamages)
	if cloth, e := fault.Weave(l, damages, 120); e != api.OK || !slices.Equal(cloth, naive(l, damages, 120)) {
		t.Error(damages, cloth, e)
	}
}

// P5.2: without damages the cloth is that of chapter 3.
func TestWeaveWhole(t *testing.T) {
	for _, l := range samples(source(2), 100) {
		cloth, e := tie.Weave(l.Harness, l.Design)
		again, f := fault.Weave(l, nil, len(l.Design.Rows))
		if e != api.OK || f != api.OK || !slices.Equal(cloth, again) {
			t.Fatal(l, cloth, e, again, f)
		}
	}
}

// P5.3: the example, both kinds of wrong points, later rounds, and damages that undo each other.
func TestWrong(t *testing.T) {
	for _, c := range []struct {
		damages []api.FaultDamage
		picks   int
		sights  []api.FaultSight
	}{
		{list(card(0, 2)), 2, []api.FaultSight{sight(0, 2, true), sight(0, 4, true)}},
		{list(card(0, 2)), 1, []api.FaultSight{sight(0, 2, true), sight(0, 4, true)}},
		{list(card(1, 2)), 1, nil},
		{list(card(1, 2)), 4, []api.FaultSight{sight(1, 2, false), sight(1, 4, false), sight(3, 2, false), sight(3, 4, false)}},
		{list(turn(0)), 2, []api.FaultSight{sight(0, 0, false), sight(0, 3, true)}},
		{list(thread(4)), 2, []api.FaultSight{sight(1, 4, false)}},
		{list(card(0, 2), thread(4)), 2, []api.FaultSight{sight(0, 2, true), sight(1, 4, false)}},
		{list(turn(1)), 120, nil},
		{list(swap(0), swap(1)), 120, nil},
		{nil, 120, nil},
	} {
		if sights, e := fault.Wrong(example(), c.damages, c.picks); e != api.OK || !slices.Equal(sights, c.sights) {
			t.Error(c, sights, e)
		}
	}
	if sights, e := fault.Wrong(largest(), list(card(59, 23)), 120); e != api.OK || len(sights) != 8 || sights[0].Pick != 59 || sights[7].Pick != 119 {
		t.Error(sights, e)
	}
}

// P5.14: a broken warp is down at all picks, and no other warp is changed; a needle changes just the warps of its hook.
func TestWarpsThatChange(t *testing.T) {
	r := source(3)
	for _, l := range samples(r, 200) {
		for warp := range l.Harness.Warps {
			cloth, _ := fault.Weave(l, list(thread(warp)), 120)
			for pick, warps := range naive(l, nil, 120) {
				if want := warps[:warp] + "." + warps[warp+1:]; cloth[pick] != want {
					t.Fatal(l, warp, pick, cloth)
				}
			}
		}
		hook, up := r.IntN(l.Design.Hooks), r.IntN(2) == 0
		cloth, _ := fault.Weave(l, list(needle(hook, up)), 120)
		for pick, warps := range naive(l, nil, 120) {
			for warp := range warps {
				stuck := l.Harness.Warps[warp] == hook
				if stuck && (cloth[pick][warp] == 'x') != up || !stuck && cloth[pick][warp] != warps[warp] {
					t.Fatal(l, hook, up, pick, warp, cloth)
				}
			}
		}
	}
}

// P5.14: a card that is changed, or turned, changes its own pick alone, two that are exchanged their two picks, in each round.
func TestPicksThatChange(t *testing.T) {
	r := source(4)
	for _, l := range samples(r, 300) {
		rows := len(l.Design.Rows)
		pick := r.IntN(rows)
		whole := naive(l, nil, 120)
		for _, d := range list(card(pick, r.IntN(l.Design.Hooks)), turn(pick), swap(pick)) {
			cloth, _ := fault.Weave(l, list(d), 120)
			for at := range cloth {
				own := at%rows == pick || d.Kind == api.FaultSwap && at%rows == (pick+1)%rows
				if !own && cloth[at] != whole[at] {
					t.Fatal(l, d, at, cloth)
				}
				if d.Kind != api.FaultSwap {
					continue
				}
				from := at
				if at%rows == pick {
					from = (pick + 1) % rows
				} else if own {
					from = pick
				}
				if cloth[at] != whole[from] {
					t.Fatal(l, d, at, cloth)
				}
			}
		}
	}
}

// P5.14: two equal damages of a card undo each other.
func TestTwiceIsNothing(t *testing.T) {
	r := source(5)
	for _, l := range samples(r, 300) {
		pick := r.IntN(len(l.Design.Rows))
		for _, d := range list(card(pick, r.IntN(l.Design.Hooks)), turn(pick), swap(pick)) {
			cloth, e := fault.Weave(l, list(d, d), 120)
			if e != api.OK || !slices.Equal(cloth, naive(l, nil, 120)) {
				t.Fatal(l, d, cloth, e)
			}
		}
	}
}
