package box_test

import (
	"math/rand/v2"
	"slices"
	"testing"

	"griffe/api"
	"griffe/box"
)

func pick(left, right int) api.BoxPick { return api.BoxPick{Left: left, Right: right} }

func shuttle(colour, side, box, low, high int) api.BoxShuttle {
	return api.BoxShuttle{Colour: colour, Side: side, Box: box, Yarn: api.Span{Low: low, High: high}}
}

// loom returns a loom with so many boxes on each side, and those numbered 0 at the race.
func loom(left, right int, shuttles ...api.BoxShuttle) api.BoxLoom {
	return api.BoxLoom{Boxes: []int{left, right}, At: []int{0, 0}, Shuttles: shuttles}
}

// example is the loom of the chapter's examples.
func example() api.BoxLoom {
	return loom(2, 2, shuttle(3, 0, 0, 2, 3), shuttle(5, 0, 1, 1, 1), shuttle(7, 1, 1, 9, 9))
}

// changed returns the loom of the examples with a change.
func changed(change func(l *api.BoxLoom)) api.BoxLoom {
	l := example()
	change(&l)
	return l
}

func same(a, b api.BoxLoom) bool {
	return slices.Equal(a.Boxes, b.Boxes) && slices.Equal(a.At, b.At) && slices.Equal(a.Shuttles, b.Shuttles)
}

func source(seed uint64) *rand.Rand { return rand.New(rand.NewPCG(seed, 24)) }

// samples returns looms with so many boxes on each side at the most, and yarn for a few picks.
func samples(r *rand.Rand, many, boxes int) []api.BoxLoom {
	var l []api.BoxLoom
	for range many {
		m := loom(1+r.IntN(boxes), 1+r.IntN(boxes))
		m.At = []int{r.IntN(m.Boxes[0]), r.IntN(m.Boxes[1])}
		colours := 1 + r.IntN(6)
		all := m.Boxes[0] + m.Boxes[1]
		for _, place := range r.Perm(all)[:1+r.IntN(min(6, all))] {
			low := r.IntN(3)
			s := shuttle(r.IntN(colours), 0, place, low, low+r.IntN(3))
			if place >= m.Boxes[0] {
				s.Side, s.Box = 1, place-m.Boxes[0]
			}
			m.Shuttles = append(m.Shuttles, s)
		}
		l = append(l, m)
	}
	return l
}

// naive throws a pick by the definition: the loom after it, the shuttle that is thrown, and how many box moves there are.
func naive(l api.BoxLoom, p api.BoxPick) (after api.BoxLoom, thrown, moves int, ok bool) {
	after = api.BoxLoom{Boxes: l.Boxes, At: []int{p.Left, p.Right}, Shuttles: slices.Clone(l.Shuttles)}
	found := 0
	for at, s := range l.Shuttles {
		if s.Side == api.BoxLeft && s.Box == p.Left {
			after.Shuttles[at].Side, after.Shuttles[at].Box = api.BoxRight, p.Right
			found, thrown = found+1, at
		}
		if s.Side == api.BoxRight && s.Box == p.Right {
			after.Shuttles[at].Side, after.Shuttles[at].Box = api.BoxLeft, p.Left
			found, thrown = found+1, at
		}
	}
	for side, at := range after.At {
		moves += max(at-l.At[side], l.At[side]-at)
	}
	return after, thrown, moves, found == 1
}

// every returns all picks of a loom, from the smallest one on.
func every(l api.BoxLoom) []api.BoxPick {
	var picks []api.BoxPick
	for left := range l.Boxes[0] {
		for right := range l.Boxes[1] {
			picks = append(picks, pick(left, right))
		}
	}
	return picks
}

// walk returns at most so many picks that can be thrown one after another, the loom after them, and the shuttles that they throw.
func walk(r *rand.Rand, l api.BoxLoom, most int) (picks []api.BoxPick, after api.BoxLoom, thrown []int) {
	for range most {
		all := every(l)
		for _, at := range r.Perm(len(all)) {
			if next, s, _, ok := naive(l, all[at]); ok {
				picks, l, thrown = append(picks, all[at]), next, append(thrown, s)
				break
			}
		}
	}
	return picks, l, thrown
}

// invalid is looms with their errors.
func invalid() []struct {
	l api.BoxLoom
	e api.Errno
} {
	const least, most = -1 << 63, 1<<63 - 1
	seven := make([]api.BoxShuttle, 7)
	return []struct {
		l api.BoxLoom
		e api.Errno
	}{
		{api.BoxLoom{}, api.ErrForm},
		{changed(func(l *api.BoxLoom) { l.Boxes = nil }), api.ErrForm},
		{changed(func(l *api.BoxLoom) { l.Boxes = []int{2} }), api.ErrForm},
		{changed(func(l *api.BoxLoom) { l.Boxes = []int{2, 2, 2} }), api.ErrForm},
		{changed(func(l *api.BoxLoom) { l.At = nil }), api.ErrForm},
		{changed(func(l *api.BoxLoom) { l.At = []int{0} }), api.ErrForm},
		{changed(func(l *api.BoxLoom) { l.At = []int{0, 0, 0} }), api.ErrForm},
		{changed(func(l *api.BoxLoom) { l.Boxes, l.At, l.Shuttles = []int{9}, []int{9, 9}, seven }), api.ErrForm},
		{changed(func(l *api.BoxLoom) { l.Boxes = []int{0, 2} }), api.ErrRange},
		{changed(func(l *api.BoxLoom) { l.Boxes = []int{2, 0} }), api.ErrRange},
		{changed(func(l *api.BoxLoom) { l.Boxes = []int{2, 5} }), api.ErrRange},
		{changed(func(l *api.BoxLoom) { l.Boxes = []int{5, 2} }), api.ErrRange},
		{changed(func(l *api.BoxLoom) { l.Boxes = []int{2, least} }), api.ErrRange},
		{changed(func(l *api.BoxLoom) { l.Boxes = []int{most, 2} }), api.ErrRange},
		{changed(func(l *api.BoxLoom) { l.At = []int{2, 0} }), api.ErrRange},
		{changed(func(l *api.BoxLoom) { l.At = []int{0, 2} }), api.ErrRange},
		{changed(func(l *api.BoxLoom) { l.At = []int{-1, 0} }), api.ErrRange},
		{changed(func(l *api.BoxLoom) { l.At = []int{0, -1} }), api.ErrRange},
		{changed(func(l *api.BoxLoom) { l.At = []int{most, least} }), api.ErrRange},
		{changed(func(l *api.BoxLoom) { l.Boxes, l.At = []int{2, 4}, []int{3, 0} }), api.ErrRange},
		{changed(func(l *api.BoxLoom) { l.At, l.Shuttles = []int{0, 2}, seven }), api.ErrRange},
		{loom(4, 4, seven...), api.ErrLong},
		{loom(4, 4, append(seven, shuttle(-1, 2, 9, 1, 0))...), api.ErrLong},
		{loom(4, 4), api.ErrArg},
		{api.BoxLoom{Boxes: []int{1, 1}, At: []int{0, 0}, Shuttles: []api.BoxShuttle{}}, api.ErrArg},
		{loom(2, 2, shuttle(-1, 0, 0, 0, 0)), api.ErrArg},
		{loom(2, 2, shuttle(10, 0, 0, 0, 0)), api.ErrArg},
		{loom(2, 2, shuttle(most, 0, 0, 0, 0)), api.ErrArg},
		{loom(2, 2, shuttle(0, -1, 0, 0, 0)), api.ErrArg},
		{loom(2, 2, shuttle(0, 2, 0, 0, 0)), api.ErrArg},
		{loom(2, 2, shuttle(0, least, 0, 0, 0)), api.ErrArg},
		{loom(2, 2, shuttle(0, 0, 2, 0, 0)), api.ErrArg},
		{loom(2, 2, shuttle(0, 1, 2, 0, 0)), api.ErrArg},
		{loom(3, 1, shuttle(0, 1, 2, 0, 0)), api.ErrArg},
		{loom(1, 3, shuttle(0, 0, 1, 0, 0)), api.ErrArg},
		{loom(2, 2, shuttle(0, 0, -1, 0, 0)), api.ErrArg},
		{loom(2, 2, shuttle(0, 0, most, 0, 0)), api.ErrArg},
		{loom(2, 2, shuttle(0, 0, 0, -1, 0)), api.ErrArg},
		{loom(2, 2, shuttle(0, 0, 0, 1, 0)), api.ErrArg},
		{loom(2, 2, shuttle(0, 0, 0, 0, 1001)), api.ErrArg},
		{loom(2, 2, shuttle(0, 0, 0, 1001, 1000)), api.ErrArg},
		{loom(2, 2, shuttle(0, 0, 0, least, most)), api.ErrArg},
		{loom(2, 2, shuttle(0, 0, 0, 0, 0), shuttle(0, 0, 0, 0, 0), shuttle(10, 1, 0, 0, 0)), api.ErrArg},
		{loom(2, 2, shuttle(0, 0, 0, 0, 0), shuttle(1, 0, 0, 0, 0)), api.ErrTwice},
		{loom(4, 4, shuttle(0, 1, 3, 0, 0), shuttle(0, 0, 3, 0, 0), shuttle(0, 1, 3, 0, 0)), api.ErrTwice},
	}
}

// P4.1: the errors of a loom, and its limits.
func TestCheck(t *testing.T) {
	for _, c := range invalid() {
		if e := box.Check(c.l); e != c.e {
			t.Error(c.l, e, "is not", c.e)
		}
	}
	full := loom(4, 4, shuttle(9, 0, 3, 0, 1000), shuttle(0, 1, 3, 1000, 1000), shuttle(0, 0, 0, 0, 0), shuttle(0, 0, 1, 0, 0), shuttle(0, 0, 2, 0, 0), shuttle(0, 1, 0, 0, 0))
	full.At = []int{3, 3}
	for _, l := range append(samples(source(1), 200, 4), example(), full, loom(1, 1, shuttle(0, 0, 0, 0, 0)), loom(1, 1, shuttle(0, 0, 0, 0, 0), shuttle(0, 1, 0, 0, 0))) {
		if e := box.Check(l); e != api.OK {
			t.Error(l, e)
		}
	}
}

// P4.1: every function has the errors of the loom first; P1, R2: with zero values.
func TestErrorsOfLoomsComeFirst(t *testing.T) {
	for _, c := range invalid() {
		for _, picks := range [][]api.BoxPick{nil, {pick(-1, 9)}, make([]api.BoxPick, 25)} {
			checkPicksError(t, c.l, picks, c.e)
		}
		if l, e := box.Can(c.l); e != c.e || len(l) != 0 {
			t.Error("Can", c.l, l, e)
		}
		for _, order := range [][]int{nil, {10}, make([]int, 25)} {
			picks, moves, at, e := box.Fewest(c.l, order)
			if e != c.e || len(picks) != 0 || moves != 0 || at != 0 {
				t.Error("Fewest", c.l, picks, moves, at, e)
			}
			groups, moves, e := box.Groups(c.l, [][]int{order})
			if e != c.e || len(groups) != 0 || moves != 0 {
				t.Error("Groups", c.l, groups, moves, e)
			}
		}
	}
}

// checkPicksError checks that all functions with picks return an error with zero values.
func checkPicksError(t *testing.T, l api.BoxLoom, picks []api.BoxPick, want api.Errno) {
	t.Helper()
	colours, after, moves, at, e := box.Throw(l, picks)
	if e != want || len(colours) != 0 || !same(after, api.BoxLoom{}) || moves != 0 || at != 0 {
		t.Error("Throw", l, picks, colours, after, moves, at, e)
	}
	left, at, e := box.Yarn(l, picks)
	if e != want || len(left) != 0 || at != 0 {
		t.Error("Yarn", l, picks, left, at, e)
	}
	possibly, surely, e := box.Runs(l, picks)
	if e != want || possibly != 0 || surely != 0 {
		t.Error("Runs", l, picks, possibly, surely, e)
	}
	if rounds, e := box.Round(l, picks); e != want || rounds != 0 {
		t.Error("Round", l, picks, rounds, e)
	}
}

// P4.1: the errors of picks come before those of throwing them.
func TestErrorsOfPicks(t *testing.T) {
	wide := loom(3, 1, shuttle(0, 0, 0, 0, 0))
	for _, c := range []struct {
		l     api.BoxLoom
		picks []api.BoxPick
		e     api.Errno
	}{
		{example(), make([]api.BoxPick, 25), api.ErrLong},
		{example(), slices.Repeat([]api.BoxPick{pick(-1, 2)}, 25), api.ErrLong},
		{example(), []api.BoxPick{pick(2, 0)}, api.ErrArg},
		{example(), []api.BoxPick{pick(0, 2)}, api.ErrArg},
		{example(), []api.BoxPick{pick(-1, 0)}, api.ErrArg},
		{example(), []api.BoxPick{pick(0, 0), pick(0, -1)}, api.ErrArg},
		{example(), []api.BoxPick{pick(1<<63-1, -1<<63)}, api.ErrArg},
		{example(), []api.BoxPick{pick(0, 1), pick(0, 2)}, api.ErrArg},
		{example(), append(make([]api.BoxPick, 23), pick(2, 0)), api.ErrArg},
		{wide, []api.BoxPick{pick(0, 1)}, api.ErrArg},
		{wide, []api.BoxPick{pick(3, 0)}, api.ErrArg},
	} {
		checkPicksError(t, c.l, c.picks, c.e)
	}
}

// P4.2: the examples, as many picks as there may be, and no pick.
func TestThrow(t *testing.T) {
	after := func(left, right int, places ...int) api.BoxLoom {
		l := example()
		l.At = []int{left, right}
		for at := range l.Shuttles {
			l.Shuttles[at].Side, l.Shuttles[at].Box = places[2*at], places[2*at+1]
		}
		return l
	}
	for _, c := range []struct {
		picks   []api.BoxPick
		colours []int
		after   api.BoxLoom
		moves   int
	}{
		{nil, nil, example(), 0},
		{[]api.BoxPick{}, nil, example(), 0},
		{[]api.BoxPick{pick(0, 0)}, []int{3}, after(0, 0, 1, 0, 0, 1, 1, 1), 0},
		{[]api.BoxPick{pick(1, 0)}, []int{5}, after(1, 0, 0, 0, 1, 0, 1, 1), 1},
		{[]api.BoxPick{pick(0, 0), pick(0, 1)}, []int{3, 7}, after(0, 1, 1, 0, 0, 1, 0, 0), 1},
		{[]api.BoxPick{pick(0, 0), pick(0, 1), pick(1, 1)}, []int{3, 7, 5}, after(1, 1, 1, 0, 1, 1, 0, 0), 2},
		{[]api.BoxPick{pick(1, 0), pick(1, 1), pick(0, 1), pick(0, 0)}, []int{5, 7, 3, 5}, after(0, 0, 1, 1, 0, 0, 0, 1), 4},
		{make([]api.BoxPick, 24), slices.Repeat([]int{3}, 24), example(), 0},
		{make([]api.BoxPick, 23), slices.Repeat([]int{3}, 23), after(0, 0, 1, 0, 0, 1, 1, 1), 0},
	} {
		colours, l, moves, at, e := box.Throw(example(), c.picks)
		if e != api.OK || !slices.Equal(colours, c.colours) || !same(l, c.after) || moves != c.moves || at != 0 {
			t.Error(c, colours, l, moves, at, e)
		}
	}
}

// P4.2, P4.6, P4.7, P4.8: the first pick that cannot be thrown, since both boxes have a shuttle, or none has.
func TestPickThatCannotBeThrown(t *testing.T) {
	for _, c := range []struct {
		l     api.BoxLoom
		picks []api.BoxPick
		at    int
	}{
		{example(), []api.BoxPick{pick(0, 1)}, 0},
		{example(), []api.BoxPick{pick(1, 1), pick(0, 0)}, 0},
		{example(), []api.BoxPick{pick(0, 0), pick(1, 0), pick(0, 0)}, 1},
		{example(), []api.BoxPick{pick(0, 0), pick(0, 1), pick(0, 0)}, 2},
		{example(), []api.BoxPick{pick(0, 0), pick(0, 1), pick(0, 1), pick(1, 1)}, 3},
		{example(), append(make([]api.BoxPick, 23), pick(1, 0)), 23},
		{loom(2, 2, shuttle(0, 0, 0, 0, 0)), []api.BoxPick{pick(1, 1)}, 0},
		{loom(2, 2, shuttle(0, 0, 0, 0, 0)), []api.BoxPick{pick(0, 1), pick(1, 1), pick(0, 0)}, 2},
		{loom(1, 1, shuttle(0, 0, 0, 0, 0), shuttle(1, 1, 0, 0, 0)), []api.BoxPick{pick(0, 0)}, 0},
	} {
		colours, after, moves, at, e := box.Throw(c.l, c.picks)
		if e != api.ErrState || at != c.at || len(colours) != 0 || !same(after, api.BoxLoom{}) || moves != 0 {
			t.Error("Throw", c, colours, after, moves, at, e)
		}
		if left, at, e := box.Yarn(c.l, c.picks); e != api.ErrState || at != c.at || len(left) != 0 {
			t.Error("Yarn", c, left, at, e)
		}
		if possibly, surely, e := box.Runs(c.l, c.picks); e != api.ErrState || possibly != 0 || surely != 0 {
			t.Error("Runs", c, possibly, surely, e)
		}
		if rounds, e := box.Round(c.l, c.picks); e != api.ErrState || rounds != 0 {
			t.Error("Round", c, rounds, e)
		}
	}
}

// P4.2, P4.9, P4.12: picks of many looms by the definition; no two shuttles come into one box, and the other way round all come back.
func TestThrowByDefinition(t *testing.T) {
	r := source(2)
	for _, l := range samples(r, 500, 4) {
		picks, after, thrown := walk(r, l, r.IntN(25))
		var want []int
		moves, now := 0, l
		for at, p := range picks {
			next, _, n, _ := naive(now, p)
			now, moves, want = next, moves+n, append(want, l.Shuttles[thrown[at]].Colour)
		}
		colours, got, n, at, e := box.Throw(l, picks)
		if e != api.OK || !slices.Equal(colours, want) || !same(got, after) || n != moves || at != 0 {
			t.Fatal(l, picks, colours, got, n, at, e)
		}
		if e := box.Check(got); e != api.OK {
			t.Fatal(l, picks, got, e)
		}
		back := slices.Clone(picks)
		slices.Reverse(back)
		colours, got, _, _, e = box.Throw(got, back)
		slices.Reverse(want)
		if e != api.OK || !slices.Equal(colours, want) || !slices.Equal(got.Shuttles, l.Shuttles) {
			t.Fatal(l, picks, colours, got, e)
		}
	}
}

// P4.2: picks that are not chosen: the first one that cannot be thrown.
func TestThrowAnyPicks(t *testing.T) {
	r := source(3)
	for _, l := range samples(r, 500, 3) {
		all := every(l)
		var picks []api.BoxPick
		for range r.IntN(6) {
			picks = append(picks, all[r.IntN(len(all))])
		}
		now, want := l, -1
		for at, p := range picks {
			next, _, _, ok := naive(now, p)
			if !ok {
				want = at
				break
			}
			now = next
		}
		_, after, _, at, e := box.Throw(l, picks)
		if want < 0 && (e != api.OK || !same(after, now) || at != 0) || want >= 0 && (e != api.ErrState || at != want) {
			t.Fatal(l, picks, after, at, e, want)
		}
	}
}

// P4.3: the example, looms of which nothing can be thrown, and colours of several shuttles.
func TestCan(t *testing.T) {
	for _, c := range []struct {
		l       api.BoxLoom
		colours []int
	}{
		{example(), []int{3, 5}},
		{loom(1, 1, shuttle(4, 1, 0, 0, 0)), []int{4}},
		{loom(1, 1, shuttle(4, 1, 0, 9, 9), shuttle(2, 0, 0, 9, 9)), nil},
		{loom(1, 4, shuttle(4, 1, 3, 0, 0), shuttle(4, 1, 0, 0, 0), shuttle(9, 1, 1, 0, 0)), []int{4, 9}},
		{loom(2, 1, shuttle(9, 1, 0, 0, 0), shuttle(0, 0, 0, 0, 0)), []int{9}},
		{loom(2, 2, shuttle(8, 1, 0, 0, 0), shuttle(1, 0, 0, 0, 0), shuttle(0, 0, 1, 0, 0)), []int{0, 1}},
		{loom(2, 2, shuttle(8, 1, 0, 0, 0), shuttle(1, 0, 0, 0, 0)), []int{1, 8}},
	} {
		if colours, e := box.Can(c.l); e != api.OK || !slices.Equal(colours, c.colours) {
			t.Error(c, colours, e)
		}
	}
}

// P4.3: all picks tried.
func TestCanByTrying(t *testing.T) {
	for _, l := range samples(source(4), 500, 4) {
		can := map[int]bool{}
		for _, p := range every(l) {
			if _, s, _, ok := naive(l, p); ok {
				can[l.Shuttles[s].Colour] = true
			}
		}
		var want []int
		for colour := range 10 {
			if can[colour] {
				want = append(want, colour)
			}
		}
		if colours, e := box.Can(l); e != api.OK || !slices.Equal(colours, want) {
			t.Fatal(l, colours, e, want)
		}
	}
}
