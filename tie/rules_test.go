package tie_test

import (
	"reflect"
	"slices"
	"strings"
	"testing"

	"griffe/api"
	"griffe/tie"
)

// spare returns a list that has room behind its end, and that room.
func spare[T any](l []T, filler T) (list, room []T) {
	room = append(slices.Clone(l), filler, filler, filler)
	return room[:len(l)], room
}

// everything returns the results of all functions for a harness, a design, a cloth and groups.
func everything(h api.TieHarness, d api.Design, cloth []string, groups []api.TieGroup) []any {
	var l []any
	add := func(results ...any) { l = append(l, results...) }
	add(tie.Check(h))
	made, at, e := tie.Make(h.Hooks, groups)
	add(made, at, e)
	beside, e := tie.Beside(h, h)
	add(beside, e)
	woven, e := tie.Weave(h, d)
	add(woven, e)
	again, e := tie.Unweave(h, cloth)
	add(again, e)
	pick, warp, other, e := tie.Part(h, cloth)
	add(pick, warp, other, e)
	few, rows, e := tie.Fewest(cloth)
	add(few, rows, e)
	apart, e := tie.Apart(cloth)
	add(apart, e)
	floats, e := tie.Floats(h, d, 1)
	add(floats, e)
	longest, row, e := tie.Worst(h, 2)
	add(longest, row, e)
	repeat, e := tie.Repeat(h)
	add(repeat, e)
	s, e := tie.Mirrors(h)
	add(s, e)
	return l
}

// spoil writes over the lists of results, and behind their ends.
func spoil(results []any) {
	for _, result := range results {
		switch r := result.(type) {
		case api.TieHarness:
			spoilList(r.Warps, -9)
		case api.Design:
			spoilList(r.Rows, -9)
		case []int:
			spoilList(r, -9)
		case []string:
			spoilList(r, "spoilt")
		}
	}
}

func spoilList[T any](l []T, filler T) {
	for at := range l {
		l[at] = filler
	}
	_ = append(l, filler)
}

// P2, R4: equal results for equal arguments, which stay as they are, with what lies behind their ends; results are new memory.
func TestArgumentsAreKept(t *testing.T) {
	r := source(15)
	for _, h := range samples(100) {
		d := randomDesign(r, h.Hooks, 4)
		cloth := must[[]string](t)(tie.Weave(h, d))
		warps, warpRoom := spare(h.Warps, -7)
		rows, rowRoom := spare(d.Rows, -7)
		picks, pickRoom := spare(cloth, "room")
		groups, groupRoom := spare([]api.TieGroup{points(0, h.Hooks-1, 1), straight(0, 0, 2)}, api.TieGroup{})
		kept := []any{slices.Clone(warpRoom), slices.Clone(rowRoom), slices.Clone(pickRoom), slices.Clone(groupRoom)}
		call := func() []any {
			results := everything(api.TieHarness{Hooks: h.Hooks, Warps: warps}, api.Design{Hooks: d.Hooks, Rows: rows}, picks, groups)
			if !reflect.DeepEqual(kept, []any{warpRoom, rowRoom, pickRoom, groupRoom}) {
				t.Fatal(h, d, "was changed:", warpRoom, rowRoom, pickRoom, groupRoom)
			}
			return results
		}
		first, again := call(), call()
		if !reflect.DeepEqual(first, again) {
			t.Fatal(h, d, first, again)
		}
		spoil(first)
		if last := call(); !reflect.DeepEqual(again, last) {
			t.Fatal(h, d, again, last)
		}
	}
}

// P1, R2: no arguments lead to a panic, and results with an error are zero values.
func TestAnyArguments(t *testing.T) {
	odd := []int{-1 << 63, -1000, -1, 0, 1, 2, 8, 9, 24, 25, 96, 97, 1000, 1001, 1<<63 - 1}
	zero := func(e api.Errno, results ...any) {
		t.Helper()
		for _, r := range results {
			v := reflect.ValueOf(r)
			if e != api.OK && !v.IsZero() && !(v.Kind() == reflect.Slice && v.Len() == 0) {
				t.Error("a result beside the error", e, r)
			}
		}
	}
	for _, a := range odd {
		for _, b := range odd {
			h, _, e := tie.Make(a, []api.TieGroup{{First: b, Last: a, Way: 1, Times: b}})
			zero(e, h)
			h, _, e = tie.Make(24, []api.TieGroup{{First: a, Last: b, Way: 2, Times: 1}, {First: 3, Last: 1, Way: api.TieWay(a), Times: b}})
			zero(e, h)
			for _, h := range []api.TieHarness{harness(a, b), harness(a, 0, b), harness(24, a, b), example()} {
				for _, d := range []api.Design{design(a, b), design(24, a), design(4, b)} {
					cloth, e := tie.Weave(h, d)
					zero(e, cloth)
					floats, e := tie.Floats(h, d, a)
					zero(e, floats)
				}
				longest, row, e := tie.Worst(h, b)
				zero(e, longest, row)
				repeat, e := tie.Repeat(h)
				zero(e, repeat)
				s, e := tie.Mirrors(h)
				zero(e, s)
				beside, e := tie.Beside(h, harness(b, a))
				zero(e, beside)
			}
		}
	}
	for _, text := range []string{"", "x", ".", "xo", "\x00", "\xff\xfe", "x.x.x.", strings.Repeat("x", 97), strings.Repeat(".", 1<<20)} {
		for _, cloth := range [][]string{{text}, {text, "x"}, {"......", text}, slices.Repeat([]string{text}, 61)} {
			d, e := tie.Unweave(example(), cloth)
			zero(e, d)
			pick, warp, other, e := tie.Part(example(), cloth)
			zero(e, pick, warp, other)
			h, d, e := tie.Fewest(cloth)
			zero(e, h, d)
			apart, e := tie.Apart(cloth)
			zero(e, apart)
		}
	}
}

// R3: a nil list and an empty one are the same.
func TestNilIsEmpty(t *testing.T) {
	for _, warps := range [][]int{nil, {}} {
		if e := tie.Check(harness(4, warps...)); e != api.ErrNone {
			t.Error(e)
		}
	}
	for _, groups := range [][]api.TieGroup{nil, {}} {
		if _, at, e := tie.Make(4, groups); at != 0 || e != api.ErrNone {
			t.Error(at, e)
		}
	}
	for _, cloth := range [][]string{nil, {}} {
		if _, e := tie.Unweave(example(), cloth); e != api.ErrNone {
			t.Error(e)
		}
		if _, _, e := tie.Fewest(cloth); e != api.ErrNone {
			t.Error(e)
		}
	}
}
