package point_test

import (
	"reflect"
	"slices"
	"testing"

	"griffe/api"
	"griffe/point"
)

// spare returns a list that has room behind its end, and that room.
func spare(l []int) (list, room []int) {
	room = append(slices.Clone(l), -7, -7, -7, -7)
	return room[:len(l)], room
}

// everything returns the results of all functions for a design and fixed points.
func everything(d api.Design, fixed []int) []any {
	var l []any
	add := func(results ...any) { l = append(l, results...) }
	for _, along := range []api.PointAlong{api.PointWeft, api.PointWarp} {
		floats, e := point.Floats(d, along, 1)
		add(floats, e)
	}
	longest, e := point.Longest(d)
	add(longest, e)
	after, changes, e := point.Bind(d, fixed, 2)
	add(after, changes, e)
	windows, e := point.Proof(d, 1)
	add(windows, e)
	for _, move := range []func(api.Design) (api.Design, api.Errno){point.Mirror, point.Flip, point.Back, point.Reflect} {
		moved, e := move(d)
		add(moved, e)
	}
	shifted, e := point.Shift(d, 0, 0)
	add(shifted, e)
	beside, e := point.Beside(d, d)
	add(beside, e)
	above, e := point.Above(d, d)
	add(above, e)
	picks, hooks, e := point.Least(d)
	add(picks, hooks, e)
	lay, e := point.Lay(d, d, d)
	add(lay, e)
	many, pick, hook, e := point.Differ(d, d)
	add(many, pick, hook, e, point.Check(d))
	return l
}

// P2, R4: equal results for equal arguments, which stay as they are, with what lies behind their ends; results are new memory.
func TestArgumentsAreKept(t *testing.T) {
	for _, d := range append(samples(100), design(1, 1, 0), design(2, 1, 2), design(4, 5)) {
		rows, room := spare(d.Rows)
		fixed, fixedRoom := spare(make([]int, len(d.Rows)))
		before, fixedBefore := slices.Clone(room), slices.Clone(fixedRoom)
		first := everything(api.Design{Hooks: d.Hooks, Rows: rows}, fixed)
		if !slices.Equal(room, before) || !slices.Equal(fixedRoom, fixedBefore) {
			t.Fatal(d, "was changed:", room, fixedRoom)
		}
		again := everything(api.Design{Hooks: d.Hooks, Rows: rows}, fixed)
		if !reflect.DeepEqual(first, again) {
			t.Fatal(d, first, again)
		}
		for _, result := range first {
			if r, ok := result.(api.Design); ok {
				for at := range r.Rows {
					r.Rows[at] = -1
				}
				_ = append(r.Rows, -9)
			}
		}
		if !slices.Equal(room, before) || !slices.Equal(fixedRoom, fixedBefore) {
			t.Fatal(d, "shares memory with a result:", room, fixedRoom)
		}
		if last := everything(api.Design{Hooks: d.Hooks, Rows: rows}, fixed); !reflect.DeepEqual(again, last) {
			t.Fatal(d, again, last)
		}
	}
}

// P1: no arguments lead to a panic, and results with an error are zero values.
func TestAnyArguments(t *testing.T) {
	odd := []int{-1 << 63, -1000, -1, 0, 1, 2, 24, 25, 60, 61, 1000, 1001, 1<<63 - 1}
	zero := func(e api.Errno, results ...any) {
		t.Helper()
		for _, r := range results {
			v := reflect.ValueOf(r)
			if e != api.OK && !v.IsZero() && !(v.Kind() == reflect.Slice && v.Len() == 0) {
				t.Error("a result beside the error", e, r)
			}
		}
	}
	for _, d := range []api.Design{{}, design(6), design(25, 1), design(6, 64), design(1, 1), example(), design(24, make([]int, 60)...)} {
		for _, a := range odd {
			for _, b := range odd {
				l, e := point.Floats(d, api.PointAlong(a), b)
				zero(e, l)
				s, e := point.Shift(d, a, b)
				zero(e, s)
				after, n, e := point.Bind(d, []int{a, b, 0, 0}, b)
				zero(e, after, n)
				after, n, e = point.Bind(d, []int{a}, b)
				zero(e, after, n)
			}
			l, e := point.Proof(d, a)
			zero(e, l)
		}
	}
}

// R3: a nil list and an empty one are the same.
func TestNilIsEmpty(t *testing.T) {
	for _, rows := range [][]int{nil, {}} {
		if e := point.Check(api.Design{Hooks: 3, Rows: rows}); e != api.ErrNone {
			t.Error(e)
		}
	}
	for _, fixed := range [][]int{nil, {}} {
		if _, _, e := point.Bind(example(), fixed, 2); e != api.ErrForm {
			t.Error(e)
		}
	}
}
