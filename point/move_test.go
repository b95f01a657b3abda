package point_test

import (
	"cmp"
	"slices"
	"testing"

	"griffe/api"
	"griffe/point"
)

// like reports whether a design has a size, and its points are as a function says.
func like(d api.Design, picks, hooks int, lifted func(pick, hook int) bool) bool {
	if point.Check(d) != api.OK || d.Hooks != hooks || len(d.Rows) != picks {
		return false
	}
	for pick := range picks {
		for hook := range hooks {
			if up(d, pick, hook) != lifted(pick, hook) {
				return false
			}
		}
	}
	return true
}

// P1.6: mirror, flip and back.
func TestMirrorFlipBack(t *testing.T) {
	done := must[api.Design](t)
	for _, c := range []struct{ d, mirror, flip, back api.Design }{
		{design(4, 1, 6), design(4, 8, 6), design(4, 6, 1), design(4, 14, 9)},
		{design(1, 1, 0, 0), design(1, 1, 0, 0), design(1, 0, 0, 1), design(1, 0, 1, 1)},
		{design(24, 1), design(24, 1<<23), design(24, 1), design(24, 1<<24-2)},
		{design(3, 1, 2, 4), design(3, 4, 2, 1), design(3, 4, 2, 1), design(3, 6, 5, 3)},
	} {
		m, f, b := done(point.Mirror(c.d)), done(point.Flip(c.d)), done(point.Back(c.d))
		if !same(m, c.mirror) || !same(f, c.flip) || !same(b, c.back) {
			t.Error(c, m, f, b)
		}
	}
}

// P1.6: shifts round both edges, and their errors.
func TestShift(t *testing.T) {
	for _, c := range []struct {
		d            api.Design
		picks, hooks int
		s            api.Design
		e            api.Errno
	}{
		{design(6, 21, 42), 0, 1, design(6, 42, 21), api.OK},
		{design(4, 1, 6), 0, 0, design(4, 1, 6), api.OK},
		{design(4, 1, 6), 1, 2, design(4, 9, 4), api.OK},
		{design(4, 1, 6), 0, 3, design(4, 8, 3), api.OK},
		{design(3, 1, 2, 4), 1, 0, design(3, 4, 1, 2), api.OK},
		{design(3, 1, 2, 4), 2, 0, design(3, 2, 4, 1), api.OK},
		{design(1, 1), 0, 0, design(1, 1), api.OK},
		{design(4, 1, 6), 2, 0, api.Design{}, api.ErrRange},
		{design(4, 1, 6), -1, 0, api.Design{}, api.ErrRange},
		{design(4, 1, 6), 0, 4, api.Design{}, api.ErrRange},
		{design(4, 1, 6), 0, -1, api.Design{}, api.ErrRange},
		{design(1, 1), 1, 0, api.Design{}, api.ErrRange},
		{design(1, 1), 0, 1, api.Design{}, api.ErrRange},
		{design(1, 1), -1 << 63, 1<<63 - 1, api.Design{}, api.ErrRange},
	} {
		if s, e := point.Shift(c.d, c.picks, c.hooks); e != c.e || !same(s, c.s) {
			t.Error(c, s, e)
		}
	}
}

// P1.6: each point of many designs.
func TestMovesByDefinition(t *testing.T) {
	done := must[api.Design](t)
	for i, d := range samples(200) {
		n, h := len(d.Rows), d.Hooks
		if m := done(point.Mirror(d)); !like(m, n, h, func(pick, hook int) bool { return up(d, pick, h-1-hook) }) {
			t.Fatal(d, m)
		}
		if f := done(point.Flip(d)); !like(f, n, h, func(pick, hook int) bool { return up(d, n-1-pick, hook) }) {
			t.Fatal(d, f)
		}
		if b := done(point.Back(d)); !like(b, n, h, func(pick, hook int) bool { return !up(d, pick, hook) }) {
			t.Fatal(d, b)
		}
		picks, hooks := i%n, i/3%h
		if s := done(point.Shift(d, picks, hooks)); !like(s, n, h, func(pick, hook int) bool { return up(d, pick-picks, hook-hooks) }) {
			t.Fatal(d, picks, hooks, s)
		}
	}
}

// P1.7: two designs beside and above each other, up to the limits, and the errors in their order.
func TestBesideAbove(t *testing.T) {
	none := api.Design{}
	picks := func(hooks, n int) api.Design { return design(hooks, make([]int, n)...) }
	for _, c := range []struct {
		a, b, beside, above api.Design
		e, f                api.Errno
	}{
		{design(4, 1, 6), design(2, 3, 1), design(6, 49, 22), none, api.OK, api.ErrForm},
		{design(4, 1, 6), design(4, 15), none, design(4, 1, 6, 15), api.ErrForm, api.OK},
		{design(4, 15), design(4, 1, 6), none, design(4, 15, 1, 6), api.ErrForm, api.OK},
		{design(12, 1), design(12, 2), design(24, 8193), design(12, 1, 2), api.OK, api.OK},
		{design(1, 0), design(23, 1<<23-1), design(24, 1<<24-2), none, api.OK, api.ErrForm},
		{design(13, 1), design(12, 1), none, none, api.ErrFull, api.ErrForm},
		{design(24, 1), design(24, 2), none, design(24, 1, 2), api.ErrFull, api.OK},
		{picks(13, 2), picks(12, 1), none, none, api.ErrForm, api.ErrForm},
		{picks(3, 31), picks(4, 31), picks(7, 31), none, api.OK, api.ErrForm},
		{picks(3, 31), picks(3, 30), none, none, api.ErrForm, api.ErrFull},
		{picks(3, 30), picks(3, 30), picks(6, 30), picks(3, 60), api.OK, api.OK},
		{picks(3, 60), picks(3, 60), picks(6, 60), none, api.OK, api.ErrFull},
	} {
		x, e := point.Beside(c.a, c.b)
		y, f := point.Above(c.a, c.b)
		if e != c.e || f != c.f || !same(x, c.beside) || !same(y, c.above) {
			t.Error(c, x, e, y, f)
		}
	}
}

// P1.8: point repeats, up to the limit.
func TestReflect(t *testing.T) {
	for _, c := range []struct {
		d, r api.Design
		e    api.Errno
	}{
		{design(4, 3), design(6, 35), api.OK},
		{design(1, 1, 0), design(1, 1, 0), api.OK},
		{design(2, 1, 2, 3), design(2, 1, 2, 3), api.OK},
		{design(3, 2, 4, 1), design(4, 10, 4, 1), api.OK},
		{design(13, 1<<11|1<<12|1), design(24, 1<<11|1<<12|1<<13|1), api.OK},
		{design(14, 1), api.Design{}, api.ErrFull},
		{design(24, 1), api.Design{}, api.ErrFull},
	} {
		if r, e := point.Reflect(c.d); e != c.e || !same(r, c.r) {
			t.Error(c, r, e)
		}
	}
}

// P1.9: least repeats of chosen designs.
func TestLeast(t *testing.T) {
	for _, c := range []struct {
		d            api.Design
		picks, hooks int
	}{
		{design(6, 21, 42), 2, 2}, {design(6, 21, 21), 1, 2}, {design(6, 0, 0, 0), 1, 1}, {design(6, 63), 1, 1},
		{design(6, 9, 18, 36), 3, 3}, {design(6, 9, 9, 18, 9, 9, 18), 3, 3}, {design(6, 9, 18, 9), 3, 3},
		{design(5, 21), 1, 5}, {design(4, 5, 15), 2, 2}, {design(4, 5, 1), 2, 4}, {design(1, 1, 0, 1, 0), 2, 1},
		{design(6, 27), 1, 3}, {design(4, 0b0110), 1, 4}, {design(12, 0b000100010001), 1, 4},
		{design(2, 1, 1, 1, 1, 2), 5, 2}, {design(2, 1, 2, 1, 2, 1, 1), 6, 2},
	} {
		if p, h, e := point.Least(c.d); e != api.OK || p != c.picks || h != c.hooks {
			t.Error(c, p, h, e)
		}
	}
}

// P1.9: no smaller divisor repeats.
func TestLeastByDefinition(t *testing.T) {
	for _, d := range samples(400) {
		n := len(d.Rows)
		repeats := func(picks, hooks int) bool {
			return like(d, n, d.Hooks, func(pick, hook int) bool { return up(d, pick+picks, hook+hooks) })
		}
		wantPicks, wantHooks := n, d.Hooks
		for k := n - 1; k > 0; k-- {
			if n%k == 0 && repeats(k, 0) {
				wantPicks = k
			}
		}
		for k := d.Hooks - 1; k > 0; k-- {
			if d.Hooks%k == 0 && repeats(0, k) {
				wantHooks = k
			}
		}
		if p, h, e := point.Least(d); e != api.OK || p != wantPicks || h != wantHooks {
			t.Fatal(d, p, h, e, "is not", wantPicks, wantHooks)
		}
	}
}

// P1.10: figures on grounds that are smaller, larger, or repeated in part, and the errors.
func TestLay(t *testing.T) {
	none := api.Design{}
	for _, c := range []struct {
		ground, figure, mask, l api.Design
		e                       api.Errno
	}{
		{design(2, 1, 2), design(4, 15, 15), design(4, 6, 6), design(4, 7, 14), api.OK},
		{design(3, 1), design(4, 0, 15), design(4, 0, 0), design(4, 9, 9), api.OK},
		{design(24, 1<<24-1, 0, 5), design(4, 9, 5), design(4, 15, 12), design(4, 9, 4), api.OK},
		{design(2, 1, 2), design(3, 0, 0, 0), design(3, 0, 0, 4), design(3, 5, 2, 1), api.OK},
		{design(2, 3), design(4, 9), design(4, 9, 9), none, api.ErrForm},
		{design(2, 3), design(4, 9), design(5, 9), none, api.ErrForm},
	} {
		if l, e := point.Lay(c.ground, c.figure, c.mask); e != c.e || !same(l, c.l) {
			t.Error(c, l, e)
		}
	}
}

// P1.11: how many points are different, the first one by picks and then by hooks, and the errors.
func TestDiffer(t *testing.T) {
	for _, c := range []struct {
		a, b             api.Design
		many, pick, hook int
		e                api.Errno
	}{
		{example(), example(), 0, 0, 0, api.OK},
		{design(4, 0, 0), design(4, 8, 1), 2, 0, 3, api.OK},
		{design(4, 9, 0), design(4, 9, 14), 3, 1, 1, api.OK},
		{design(4, 1), design(4, 0), 1, 0, 0, api.OK},
		{design(24, 0), design(24, 1<<24-1), 24, 0, 0, api.OK},
		{design(4, 1), design(4, 1, 1), 0, 0, 0, api.ErrForm},
		{design(4, 1), design(5, 1), 0, 0, 0, api.ErrForm},
	} {
		if many, pick, hook, e := point.Differ(c.a, c.b); e != c.e || many != c.many || pick != c.pick || hook != c.hook {
			t.Error(c, many, pick, hook, e)
		}
		if many, pick, hook, e := point.Differ(c.b, c.a); e != c.e || many != c.many || pick != c.pick || hook != c.hook {
			t.Error("the other way round", c, many, pick, hook, e)
		}
	}
}

// lengths returns the lengths of all floats in order, those of points that are not lifted below 0.
func lengths(t *testing.T, d api.Design, along api.PointAlong) []int {
	var l []int
	for _, f := range must[[]api.PointFloat](t)(point.Floats(d, along, 0)) {
		if f.Lifted {
			l = append(l, f.Length)
		} else {
			l = append(l, -f.Length)
		}
	}
	slices.Sort(l)
	return l
}

// P1.14: the floats of the face are those of the back of Back; moves leave all lengths, and undo themselves.
func TestBothSides(t *testing.T) {
	done := must[api.Design](t)
	for i, d := range samples(200) {
		back := done(point.Back(d))
		n, b := must[api.PointLongest](t)(point.Longest(d)), must[api.PointLongest](t)(point.Longest(back))
		if n != (api.PointLongest{WeftFace: b.WeftBack, WeftBack: b.WeftFace, WarpFace: b.WarpBack, WarpBack: b.WarpFace}) {
			t.Fatal(d, n, b)
		}
		picks, hooks := i%len(d.Rows), i/2%d.Hooks
		mirror, flip, shift := done(point.Mirror(d)), done(point.Flip(d)), done(point.Shift(d, picks, hooks))
		for _, along := range []api.PointAlong{api.PointWeft, api.PointWarp} {
			l := must[[]api.PointFloat](t)(point.Floats(back, along, 0))
			for at := range l {
				l[at].Lifted = !l[at].Lifted
			}
			if !slices.Equal(l, must[[]api.PointFloat](t)(point.Floats(d, along, 0))) {
				t.Fatal(d, along, l)
			}
			want := lengths(t, d, along)
			for _, moved := range []api.Design{mirror, flip, shift} {
				if !slices.Equal(lengths(t, moved, along), want) {
					t.Fatal(d, along, moved)
				}
			}
		}
		whole := done(point.Shift(shift, (len(d.Rows)-picks)%len(d.Rows), (d.Hooks-hooks)%d.Hooks))
		for _, again := range []api.Design{done(point.Mirror(mirror)), done(point.Flip(flip)), done(point.Back(back)), whole} {
			if !same(again, d) {
				t.Fatal(d, again)
			}
		}
	}
}

// P1.15: what was reflected is its own mirror, shifted by one hook.
func TestReflectedIsItsMirror(t *testing.T) {
	done := must[api.Design](t)
	for _, d := range samples(300) {
		if d.Hooks < 2 || d.Hooks > 13 {
			continue
		}
		r := done(point.Reflect(d))
		if again := done(point.Shift(done(point.Mirror(r)), 0, 1)); !same(again, r) {
			t.Fatal(d, r, again)
		}
		left := like(api.Design{Hooks: d.Hooks, Rows: firstHooks(r.Rows, d.Hooks)}, len(d.Rows), d.Hooks, func(pick, hook int) bool { return up(d, pick, hook) })
		if !left {
			t.Fatal(d, r)
		}
	}
}

// firstHooks returns rows without the hooks from some hook on.
func firstHooks(rows []int, hooks int) []int {
	var l []int
	for _, row := range rows {
		l = append(l, row&(1<<hooks-1))
	}
	return l
}

// P1.15: what is beside itself, or above itself, has the same least repeat and the same longest floats.
func TestRepeatsCloseAtTheEdge(t *testing.T) {
	done := must[api.Design](t)
	for _, d := range samples(300) {
		var twice []api.Design
		if 2*d.Hooks <= api.MaxHooks {
			twice = append(twice, done(point.Beside(d, d)))
		}
		if 2*len(d.Rows) <= api.MaxPicks {
			twice = append(twice, done(point.Above(d, d)))
		}
		picks, hooks, _ := point.Least(d)
		longest := must[api.PointLongest](t)(point.Longest(d))
		for _, two := range twice {
			p, h, e := point.Least(two)
			if e != api.OK || p != picks || h != hooks || must[api.PointLongest](t)(point.Longest(two)) != longest {
				t.Fatal(d, two, p, h, e)
			}
		}
	}
}

// P1.16: the ground where the mask is not lifted, the figure where it is; with nothing lifted, a ground of this size.
func TestLayers(t *testing.T) {
	done := must[api.Design](t)
	all := samples(300)
	sized := slices.Clone(all)
	slices.SortStableFunc(sized, func(a, b api.Design) int {
		return cmp.Or(cmp.Compare(a.Hooks, b.Hooks), cmp.Compare(len(a.Rows), len(b.Rows)))
	})
	laid := 0
	for i := range len(sized) - 1 {
		figure, mask, ground := sized[i], sized[i+1], all[i]
		if figure.Hooks != mask.Hooks || len(figure.Rows) != len(mask.Rows) {
			continue
		}
		laid++
		l := done(point.Lay(ground, figure, mask))
		if !like(l, len(figure.Rows), figure.Hooks, func(pick, hook int) bool {
			if up(mask, pick, hook) {
				return up(figure, pick, hook)
			}
			return up(ground, pick, hook)
		}) {
			t.Fatal(ground, figure, mask, l)
		}
		nothing := design(mask.Hooks, make([]int, len(mask.Rows))...)
		if l := done(point.Lay(mask, figure, nothing)); !same(l, mask) {
			t.Fatal(mask, figure, l)
		}
		if l := done(point.Lay(ground, figure, done(point.Back(nothing)))); !same(l, figure) {
			t.Fatal(ground, figure, l)
		}
	}
	if laid < 50 {
		t.Error("only", laid, "figures were laid")
	}
}
