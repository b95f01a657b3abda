package box_test

import (
	"slices"
	"testing"

	"griffe/api"
	"griffe/box"
)

func span(low, high int) api.Span { return api.Span{Low: low, High: high} }

// P4.6: the examples.
func TestYarn(t *testing.T) {
	for _, c := range []struct {
		picks []api.BoxPick
		left  []api.Span
	}{
		{nil, []api.Span{span(2, 3), span(1, 1), span(9, 9)}},
		{make([]api.BoxPick, 1), []api.Span{span(1, 2), span(1, 1), span(9, 9)}},
		{make([]api.BoxPick, 2), []api.Span{span(0, 1), span(1, 1), span(9, 9)}},
		{make([]api.BoxPick, 3), []api.Span{span(0, 0), span(1, 1), span(9, 9)}},
		{make([]api.BoxPick, 24), []api.Span{span(0, 0), span(1, 1), span(9, 9)}},
		{[]api.BoxPick{pick(0, 0), pick(0, 1), pick(1, 1)}, []api.Span{span(1, 2), span(0, 0), span(8, 8)}},
	} {
		if left, at, e := box.Yarn(example(), c.picks); e != api.OK || !slices.Equal(left, c.left) || at != 0 {
			t.Error(c, left, at, e)
		}
	}
}

// P4.7: the example, and picks after which no shuttle runs out, or not surely.
func TestRuns(t *testing.T) {
	two := loom(2, 1, shuttle(0, 0, 0, 0, 1000), shuttle(0, 0, 1, 1, 2))
	for _, c := range []struct {
		l                api.BoxLoom
		picks            []api.BoxPick
		possibly, surely int
	}{
		{example(), nil, -1, -1},
		{example(), make([]api.BoxPick, 2), -1, -1},
		{example(), make([]api.BoxPick, 3), 2, -1},
		{example(), make([]api.BoxPick, 4), 2, 3},
		{example(), make([]api.BoxPick, 24), 2, 3},
		{example(), []api.BoxPick{pick(1, 0), pick(1, 0), pick(0, 0)}, 1, 1},
		{loom(1, 1, shuttle(0, 0, 0, 0, 0)), make([]api.BoxPick, 1), 0, 0},
		{loom(1, 1, shuttle(0, 0, 0, 0, 1000)), make([]api.BoxPick, 24), 0, -1},
		{loom(1, 1, shuttle(0, 0, 0, 24, 24)), make([]api.BoxPick, 24), -1, -1},
		{loom(1, 1, shuttle(0, 0, 0, 23, 24)), make([]api.BoxPick, 24), 23, -1},
		{two, []api.BoxPick{pick(1, 0), pick(1, 0), pick(1, 0), pick(1, 0)}, 1, 2},
		{two, []api.BoxPick{pick(0, 0), pick(0, 0), pick(1, 0), pick(1, 0), pick(1, 0)}, 0, 4},
		// Two shuttles of one colour have each their own yarn.
		{two, []api.BoxPick{pick(1, 0), pick(1, 0), pick(0, 0), pick(0, 0)}, 1, -1},
	} {
		possibly, surely, e := box.Runs(c.l, c.picks)
		if e != api.OK || possibly != c.possibly || surely != c.surely {
			t.Error(c, possibly, surely, e)
		}
	}
}

// truths returns all yarns that there can truly be.
func truths(shuttles []api.BoxShuttle) [][]int {
	if len(shuttles) == 0 {
		return [][]int{nil}
	}
	var l [][]int
	for _, rest := range truths(shuttles[1:]) {
		for yarn := shuttles[0].Yarn.Low; yarn <= shuttles[0].Yarn.High; yarn++ {
			l = append(l, append([]int{yarn}, rest...))
		}
	}
	return l
}

// runsOut returns the first pick at which a shuttle truly runs out, or the number of picks, and what is left of each yarn.
func runsOut(yarn, thrown []int) (first int, left []int) {
	first, left = len(thrown), slices.Clone(yarn)
	for at, s := range thrown {
		if left[s] == 0 {
			first = min(first, at)
			continue
		}
		left[s]--
	}
	return first, left
}

// P4.6, P4.7, P4.13: all truths tried: the first picks at which some shuttle runs out, and what is left.
func TestTruths(t *testing.T) {
	r := source(5)
	for _, l := range samples(r, 300, 3) {
		picks, _, thrown := walk(r, l, r.IntN(12))
		first, last := len(picks), 0
		low, high := slices.Repeat([]int{1000}, len(l.Shuttles)), make([]int, len(l.Shuttles))
		for _, yarn := range truths(l.Shuttles) {
			at, left := runsOut(yarn, thrown)
			first, last = min(first, at), max(last, at)
			for s, n := range left {
				low[s], high[s] = min(low[s], n), max(high[s], n)
			}
		}
		if first == len(picks) {
			first = -1
		}
		if last == len(picks) {
			last = -1
		}
		possibly, surely, e := box.Runs(l, picks)
		if e != api.OK || possibly != first || surely != last {
			t.Fatal(l, picks, possibly, surely, e, first, last)
		}
		left, _, e := box.Yarn(l, picks)
		if e != api.OK || len(left) != len(l.Shuttles) {
			t.Fatal(l, picks, left, e)
		}
		for s, yarn := range left {
			if yarn != span(low[s], high[s]) {
				t.Fatal(l, picks, left, low, high)
			}
		}
	}
}

// P4.9: what is left and what was thrown are together what there was, as long as a shuttle has not run out.
func TestYarnIsConserved(t *testing.T) {
	r := source(6)
	for _, l := range samples(r, 300, 4) {
		for s := range l.Shuttles {
			l.Shuttles[s].Yarn = span(24, 24+r.IntN(900))
		}
		picks, _, thrown := walk(r, l, r.IntN(25))
		left, _, e := box.Yarn(l, picks)
		if e != api.OK {
			t.Fatal(l, picks, e)
		}
		for _, s := range thrown {
			left[s].Low++
			left[s].High++
		}
		for s, yarn := range left {
			if yarn != l.Shuttles[s].Yarn {
				t.Fatal(l, picks, left)
			}
		}
	}
}

// P4.13: with more yarn neither number comes earlier.
func TestMoreYarn(t *testing.T) {
	r := source(7)
	later := func(a, b int) bool { return a < 0 || b >= 0 && a >= b }
	for _, l := range samples(r, 300, 3) {
		picks, _, _ := walk(r, l, r.IntN(16))
		possibly, surely, _ := box.Runs(l, picks)
		yarn := &l.Shuttles[r.IntN(len(l.Shuttles))].Yarn
		more := r.IntN(3)
		yarn.High += more
		yarn.Low += r.IntN(more + 1)
		after, sure, e := box.Runs(l, picks)
		if e != api.OK || !later(after, possibly) || !later(sure, surely) {
			t.Fatal(l, picks, possibly, surely, after, sure, e)
		}
	}
}

// P4.8: the examples, rounds that change places of alike colours, and many rounds.
func TestRound(t *testing.T) {
	six := loom(4, 4, shuttle(0, 0, 3, 0, 0), shuttle(1, 1, 0, 0, 0), shuttle(2, 0, 1, 0, 0), shuttle(3, 0, 2, 0, 0), shuttle(4, 0, 0, 0, 0), shuttle(5, 1, 3, 0, 0))
	for _, c := range []struct {
		l      api.BoxLoom
		picks  []api.BoxPick
		rounds int
		e      api.Errno
	}{
		{example(), []api.BoxPick{pick(0, 0)}, 2, api.OK},
		{example(), []api.BoxPick{pick(0, 0), pick(0, 0)}, 1, api.OK},
		{example(), make([]api.BoxPick, 24), 1, api.OK},
		{example(), make([]api.BoxPick, 23), 2, api.OK},
		{example(), []api.BoxPick{pick(0, 0), pick(0, 1)}, 0, api.ErrState},
		{example(), nil, 0, api.ErrNone},
		{example(), []api.BoxPick{}, 0, api.ErrNone},
		{example(), []api.BoxPick{pick(0, 1)}, 0, api.ErrState},
		// The second round finds both boxes without a shuttle.
		{loom(2, 2, shuttle(1, 0, 0, 0, 0)), []api.BoxPick{pick(0, 0), pick(1, 0)}, 0, api.ErrState},
		// Shuttles of one colour are different ones.
		{loom(2, 1, shuttle(1, 0, 0, 0, 0), shuttle(1, 0, 1, 0, 0)), []api.BoxPick{pick(0, 0), pick(0, 0)}, 1, api.OK},
		{loom(2, 2, shuttle(1, 0, 0, 0, 0), shuttle(1, 0, 1, 0, 0)), []api.BoxPick{pick(0, 0), pick(1, 1), pick(0, 1), pick(1, 0)}, 2, api.OK},
		{loom(1, 3, shuttle(0, 1, 1, 0, 0), shuttle(0, 1, 0, 0, 0)), []api.BoxPick{pick(0, 1), pick(0, 2), pick(0, 0)}, 4, api.OK},
		{six, []api.BoxPick{pick(0, 1), pick(1, 2), pick(0, 0), pick(3, 0), pick(3, 1), pick(2, 1), pick(2, 3), pick(0, 3), pick(0, 1)}, 10, api.OK},
	} {
		if rounds, e := box.Round(c.l, c.picks); e != c.e || rounds != c.rounds {
			t.Error(c, rounds, e)
		}
	}
}

// places returns in which boxes the shuttles are.
func places(l api.BoxLoom) []int {
	var p []int
	for _, s := range l.Shuttles {
		p = append(p, s.Side, s.Box)
	}
	return p
}

// P4.8, P4.12: rounds thrown one after another until all shuttles are back.
func TestRoundByThrowing(t *testing.T) {
	r := source(8)
	seen := map[int]bool{}
	for _, l := range samples(r, 4000, 4) {
		picks, _, _ := walk(r, l, 1+r.IntN(8))
		if len(picks) == 0 {
			continue
		}
		now, want, e := l, 0, api.OK
		for want == 0 || e == api.OK && !slices.Equal(places(now), places(l)) {
			want++
			for _, p := range picks {
				next, _, _, ok := naive(now, p)
				if !ok {
					want, e = 0, api.ErrState
					break
				}
				now = next
			}
			if e != api.OK {
				break
			}
		}
		rounds, f := box.Round(l, picks)
		if rounds != want || f != e || rounds > 15 {
			t.Fatal(l, picks, rounds, f, want, e)
		}
		seen[rounds] = true
	}
	for rounds := range 5 {
		if !seen[rounds] {
			t.Error("no sample with", rounds)
		}
	}
}
