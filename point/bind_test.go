package point_test

import (
	"math/bits"
	"slices"
	"testing"

	"griffe/api"
	"griffe/point"
)

// isBound reports whether a row is bound.
func isBound(hooks, row, bound int) bool {
	return len(naive(design(hooks, row), api.PointWeft, bound)) == 0
}

// boundRows returns all rows of so many hooks that are bound.
func boundRows(hooks, bound int) []int {
	var l []int
	for row := range 1 << hooks {
		if isBound(hooks, row, bound) {
			l = append(l, row)
		}
	}
	return l
}

// nearest returns the best one of some rows: with the fewest changes, then the smallest.
func nearest(row, fixed int, rows []int) (best, changes int, ok bool) {
	for _, r := range rows {
		if (r^row)&fixed != 0 {
			continue
		}
		if n := bits.OnesCount(uint(r ^ row)); !ok || n < changes {
			best, changes, ok = r, n, true
		}
	}
	return best, changes, ok
}

// P1.4: the examples and the edges.
func TestBind(t *testing.T) {
	for _, c := range []struct {
		d       api.Design
		fixed   []int
		bound   int
		rows    []int
		changes int
	}{
		{example(), make([]int, 4), 2, []int{11, 25, 9, 21}, 6},
		{design(6, 7), []int{0}, 1, []int{21}, 2},
		{design(6, 7), []int{1}, 2, []int{11}, 2},
		{design(6, 7), []int{63}, 3, []int{7}, 0},
		{design(6, 7), []int{2}, 1, []int{42}, 4},
		{design(2, 3), []int{0}, 24, []int{1}, 1},
		{design(2, 3), []int{2}, 24, []int{2}, 1},
		{design(24, 0), []int{0}, 23, []int{1}, 1},
		{design(24, 0), []int{0}, 24, []int{1}, 1},
		{design(24, 1<<24-1), []int{0}, 1, []int{0x555555}, 12},
	} {
		after, changes, e := point.Bind(c.d, c.fixed, c.bound)
		if e != api.OK || !same(after, design(c.d.Hooks, c.rows...)) || changes != c.changes {
			t.Error(c, after, changes, e)
		}
	}
}

// P1.4: each row of few hooks with all points that may be fixed, and each bound.
func TestBindByTryingAllRows(t *testing.T) {
	for hooks := 1; hooks <= 6; hooks++ {
		for bound := 1; bound <= hooks+1; bound++ {
			rows := boundRows(hooks, bound)
			for row := range 1 << hooks {
				for fixed := range 1 << hooks {
					want, least, ok := nearest(row, fixed, rows)
					after, changes, e := point.Bind(design(hooks, row), []int{fixed}, bound)
					if !ok && (e != api.ErrState || changes != 0 || !same(after, api.Design{})) {
						t.Fatal(hooks, bound, row, fixed, after, changes, e)
					}
					if ok && (e != api.OK || changes != least || !same(after, design(hooks, want))) {
						t.Fatal(hooks, bound, row, fixed, after, changes, e, "is not", want, least)
					}
				}
			}
		}
	}
}

// P1.4: each row of some more hooks.
func TestBindByTryingMoreHooks(t *testing.T) {
	for hooks := 7; hooks <= 10; hooks++ {
		for bound := 1; bound < hooks; bound++ {
			rows := boundRows(hooks, bound)
			for row := range 1 << hooks {
				fixed := row * 37 % (1 << hooks) & (row * 11 % (1 << hooks))
				want, least, ok := nearest(row, fixed, rows)
				after, changes, e := point.Bind(design(hooks, row), []int{fixed}, bound)
				if (e == api.OK) != ok || ok && (changes != least || !same(after, design(hooks, want))) {
					t.Fatal(hooks, bound, row, fixed, after, changes, e, "is not", want, least)
				}
			}
		}
	}
}

// P1.4: the errors, in their order.
func TestBindErrors(t *testing.T) {
	for _, c := range []struct {
		d     api.Design
		fixed []int
		bound int
		e     api.Errno
	}{
		{example(), nil, 2, api.ErrForm},
		{example(), make([]int, 3), 2, api.ErrForm},
		{example(), make([]int, 5), 2, api.ErrForm},
		{design(6, 7), []int{0, 64}, 0, api.ErrForm},
		{design(6, 7), []int{64}, 2, api.ErrArg},
		{design(6, 7), []int{-1}, 2, api.ErrArg},
		{design(6, 7), []int{64}, 0, api.ErrArg},
		{design(6, 7), []int{1<<63 - 1}, 25, api.ErrArg},
		{design(6, 7, 7), []int{63, 64}, 2, api.ErrArg},
		{design(6, 7), []int{63}, 0, api.ErrRange},
		{design(6, 7), []int{63}, -1, api.ErrRange},
		{design(6, 7), []int{63}, 25, api.ErrRange},
		{design(6, 7), []int{63}, 1 << 62, api.ErrRange},
		{example(), []int{0, 0, 63, 0}, 2, api.ErrState},
		{example(), []int{0, 0, 63, 0}, 24, api.ErrState},
		{design(6, 7), []int{63}, 2, api.ErrState},
		{design(6, 7, 63), []int{0, 63}, 3, api.ErrState},
		{design(6, 3), []int{3}, 1, api.ErrState},
		{design(3, 1), []int{0}, 1, api.ErrState},
		{design(1, 0), []int{0}, 24, api.ErrState},
		{design(1, 1), []int{1}, 1, api.ErrState},
	} {
		after, changes, e := point.Bind(c.d, c.fixed, c.bound)
		if e != c.e || changes != 0 || !same(after, api.Design{}) {
			t.Error(c, after, changes, e)
		}
	}
}

// P1.5: the windows of the example, of floats round the edge, and of endless ones.
func TestProof(t *testing.T) {
	for _, c := range []struct {
		d     api.Design
		bound int
		l     []api.PointFloat
	}{
		{example(), 2, []api.PointFloat{float(0, 0, 3, true), float(0, 3, 3, false), float(1, 0, 3, false), float(1, 3, 3, true), float(2, 0, 3, false), float(2, 3, 3, false)}},
		{design(6, 7), 3, nil},
		{design(7, 0b1100011), 1, []api.PointFloat{float(0, 2, 2, false), float(0, 5, 2, true), float(0, 0, 2, true)}},
		{design(7, 0b1110011), 2, []api.PointFloat{float(0, 4, 3, true)}},
		{design(5, 31), 1, []api.PointFloat{float(0, 0, 2, true), float(0, 2, 2, true)}},
		{design(5, 0), 4, []api.PointFloat{float(0, 0, 5, false)}},
		{design(5, 0), 5, nil},
		{design(1, 0), 1, nil},
		{design(24, 0), 23, []api.PointFloat{float(0, 0, 24, false)}},
		{design(24, 0), 24, nil},
		{design(24, 1), 1, twos()},
	} {
		if l, e := point.Proof(c.d, c.bound); e != api.OK || !slices.Equal(l, c.l) {
			t.Error(c.d, c.bound, l, e)
		}
	}
	for _, bound := range []int{0, -1, 25, 1000} {
		if l, e := point.Proof(example(), bound); e != api.ErrRange || len(l) != 0 {
			t.Error(bound, l, e)
		}
	}
}

// twos returns the windows of two points of 23 hooks from the hook 1 on.
func twos() []api.PointFloat {
	var l []api.PointFloat
	for i := range 11 {
		l = append(l, float(0, 1+2*i, 2, false))
	}
	return l
}

// P1.5: windows of many designs: alike points, in their order, none over another, as many as fit.
func TestProofByDefinition(t *testing.T) {
	for _, d := range samples(300) {
		for bound := 1; bound <= api.MaxHooks; bound++ {
			var want []api.PointFloat
			for _, f := range naive(d, api.PointWeft, bound) {
				left := min(f.Length, d.Hooks)
				for at := f.Hook; left > bound; at += bound + 1 {
					want = append(want, float(f.Pick, at%d.Hooks, bound+1, f.Lifted))
					left -= bound + 1
				}
			}
			if l := must[[]api.PointFloat](t)(point.Proof(d, bound)); !slices.Equal(l, want) {
				t.Fatal(d, bound, l, want)
			}
		}
	}
}

// P1.12: the design is bound, has the fixed points as they were, is as different as it says, and has at least a change a window.
func TestBoundDesigns(t *testing.T) {
	for i, d := range samples(400) {
		fixed := make([]int, len(d.Rows))
		for at, row := range d.Rows {
			fixed[at] = row * (i%3 + at) * 2654435761 >> 7 & (1<<d.Hooks - 1) & (row*40503>>3 | 1)
		}
		bound := 1 + i%api.MaxHooks
		after, changes, e := point.Bind(d, fixed, bound)
		if e == api.ErrState {
			continue
		}
		many, _, _, f := point.Differ(d, after)
		if e != api.OK || f != api.OK || many != changes {
			t.Fatal(d, fixed, bound, after, changes, many, e, f)
		}
		if l := must[[]api.PointFloat](t)(point.Floats(after, api.PointWeft, bound)); len(l) != 0 {
			t.Fatal(d, bound, "is not bound:", after, l)
		}
		windows := make([]int, len(d.Rows))
		for _, w := range must[[]api.PointFloat](t)(point.Proof(d, bound)) {
			windows[w.Pick]++
		}
		for at := range d.Rows {
			changed := d.Rows[at] ^ after.Rows[at]
			if changed&fixed[at] != 0 || bits.OnesCount(uint(changed)) < windows[at] {
				t.Fatal(d, fixed, bound, at, after, windows)
			}
		}
	}
}

// P1.12: no design with fewer changes is bound, over all designs of few points.
func TestNoFewerChanges(t *testing.T) {
	for a := range 1 << 4 {
		for b := range 1 << 4 {
			for bound := 1; bound <= 3; bound++ {
				_, changes, e := point.Bind(design(4, a, b), []int{0, 0}, bound)
				if e != api.OK {
					t.Fatal(a, b, bound, e)
				}
				for other := range 1 << 8 {
					x, y := other&15, other>>4
					n := bits.OnesCount(uint(x^a)) + bits.OnesCount(uint(y^b))
					if n < changes && isBound(4, x, bound) && isBound(4, y, bound) {
						t.Fatal(a, b, bound, changes, x, y)
					}
				}
			}
		}
	}
}

// P1.13: with nothing fixed, a bound of 2 or more and no endless float there are as many changes as windows.
func TestProofIsExact(t *testing.T) {
	for hooks := 2; hooks <= 10; hooks++ {
		for row := 1; row < 1<<hooks-1; row++ {
			for bound := 2; bound <= hooks; bound++ {
				windows := must[[]api.PointFloat](t)(point.Proof(design(hooks, row), bound))
				if _, changes, e := point.Bind(design(hooks, row), []int{0}, bound); e != api.OK || changes != len(windows) {
					t.Fatal(hooks, row, bound, changes, windows, e)
				}
			}
		}
	}
	for _, d := range samples(400) {
		for _, f := range naive(d, api.PointWeft, 999) {
			d.Rows[f.Pick] ^= 1
		}
		if d.Hooks == 1 {
			continue
		}
		for bound := 2; bound <= api.MaxHooks; bound++ {
			windows := must[[]api.PointFloat](t)(point.Proof(d, bound))
			if _, changes, e := point.Bind(d, make([]int, len(d.Rows)), bound); e != api.OK || changes != len(windows) {
				t.Fatal(d, bound, changes, windows, e)
			}
		}
	}
}
