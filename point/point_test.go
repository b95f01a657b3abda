package point_test

import (
	"math/rand/v2"
	"slices"
	"testing"

	"griffe/api"
	"griffe/point"
)

// design returns a design, float a float.
func design(hooks int, rows ...int) api.Design { return api.Design{Hooks: hooks, Rows: rows} }

func float(pick, hook, length int, lifted bool) api.PointFloat {
	return api.PointFloat{Pick: pick, Hook: hook, Length: length, Lifted: lifted}
}

func same(a, b api.Design) bool { return a.Hooks == b.Hooks && slices.Equal(a.Rows, b.Rows) }

// example is the design of the chapter's examples.
func example() api.Design { return design(6, 7, 56, 0, 21) }

// samples returns designs of all sizes, small ones more often, some of them with long floats or repeats.
func samples(many int) []api.Design {
	r := rand.New(rand.NewPCG(1, 14))
	var l []api.Design
	for i := range many {
		hooks, picks := 1+r.IntN(6), 1+r.IntN(6)
		if i%5 == 0 {
			hooks, picks = 1+r.IntN(api.MaxHooks), 1+r.IntN(api.MaxPicks)
		}
		d := api.Design{Hooks: hooks}
		for len(d.Rows) < picks {
			row := r.IntN(1 << hooks)
			switch r.IntN(6) {
			case 0:
				row &= r.IntN(1 << hooks)
				row &= r.IntN(1 << hooks)
			case 1:
				row = 0
			case 2:
				row = 1<<hooks - 1
			}
			d.Rows = append(d.Rows, row)
		}
		if r.IntN(3) == 0 && 2*picks <= api.MaxPicks {
			d.Rows = slices.Concat(d.Rows, d.Rows)
		}
		l = append(l, d)
	}
	return l
}

// up reports whether a point is lifted, round both edges.
func up(d api.Design, pick, hook int) bool {
	n := len(d.Rows)
	return d.Rows[(pick%n+n)%n]>>((hook%d.Hooks+d.Hooks)%d.Hooks)&1 == 1
}

// must returns a result that has no error.
func must[T any](t *testing.T) func(v T, e api.Errno) T {
	return func(v T, e api.Errno) T {
		t.Helper()
		if e != api.OK {
			t.Fatal("error", e)
		}
		return v
	}
}

// invalid is designs with their errors.
var invalid = []struct {
	d api.Design
	e api.Errno
}{
	{api.Design{}, api.ErrArg},
	{design(0, 0), api.ErrArg},
	{design(-1, 0), api.ErrArg},
	{design(25, 0), api.ErrArg},
	{design(25, make([]int, 61)...), api.ErrArg},
	{design(1 << 62), api.ErrArg},
	{design(-1 << 63), api.ErrArg},
	{design(6, make([]int, 61)...), api.ErrLong},
	{design(6, append(make([]int, 60), 64)...), api.ErrLong},
	{design(6), api.ErrNone},
	{api.Design{Hooks: 6, Rows: []int{}}, api.ErrNone},
	{design(6, 64), api.ErrArg},
	{design(6, 63, -1), api.ErrArg},
	{design(24, 1<<24), api.ErrArg},
	{design(1, 2), api.ErrArg},
	{design(6, -1<<63), api.ErrArg},
	{design(6, 1<<63-1), api.ErrArg},
}

// call is a call of a function with some designs, and with other arguments that are not valid: its results are written as lists.
type call struct {
	name    string
	designs int
	call    func(d ...api.Design) (results []int, e api.Errno)
}

func numbers(d api.Design) []int { return append([]int{d.Hooks}, d.Rows...) }

func floatNumbers(l []api.PointFloat) []int {
	var n []int
	for _, f := range l {
		n = append(n, f.Pick, f.Hook, f.Length)
	}
	return n
}

func calls() []call {
	moved := func(name string, f func(api.Design) (api.Design, api.Errno)) call {
		return call{name, 1, func(d ...api.Design) ([]int, api.Errno) { a, e := f(d[0]); return numbers(a), e }}
	}
	joined := func(name string, f func(a, b api.Design) (api.Design, api.Errno)) call {
		return call{name, 2, func(d ...api.Design) ([]int, api.Errno) { a, e := f(d[0], d[1]); return numbers(a), e }}
	}
	return []call{
		{"Check", 1, func(d ...api.Design) ([]int, api.Errno) { return nil, point.Check(d[0]) }},
		{"Floats", 1, func(d ...api.Design) ([]int, api.Errno) {
			l, e := point.Floats(d[0], 3, -1)
			return floatNumbers(l), e
		}},
		{"Longest", 1, func(d ...api.Design) ([]int, api.Errno) {
			l, e := point.Longest(d[0])
			return []int{l.WeftFace, l.WeftBack, l.WarpFace, l.WarpBack}, e
		}},
		{"Bind", 1, func(d ...api.Design) ([]int, api.Errno) {
			a, n, e := point.Bind(d[0], []int{-1}, 0)
			return append(numbers(a), n), e
		}},
		{"Proof", 1, func(d ...api.Design) ([]int, api.Errno) {
			l, e := point.Proof(d[0], 0)
			return floatNumbers(l), e
		}},
		moved("Mirror", point.Mirror), moved("Flip", point.Flip), moved("Back", point.Back), moved("Reflect", point.Reflect),
		moved("Shift", func(d api.Design) (api.Design, api.Errno) { return point.Shift(d, -1, 99) }),
		joined("Beside", point.Beside), joined("Above", point.Above),
		{"Least", 1, func(d ...api.Design) ([]int, api.Errno) {
			p, h, e := point.Least(d[0])
			return []int{p, h}, e
		}},
		{"Lay", 3, func(d ...api.Design) ([]int, api.Errno) {
			a, e := point.Lay(d[0], d[1], d[2])
			return numbers(a), e
		}},
		{"Differ", 2, func(d ...api.Design) ([]int, api.Errno) {
			n, p, h, e := point.Differ(d[0], d[1])
			return []int{n, p, h}, e
		}},
	}
}

// P1.1: the errors of a design, and its limits.
func TestCheck(t *testing.T) {
	for _, c := range invalid {
		if e := point.Check(c.d); e != c.e {
			t.Error(c.d, e, "is not", c.e)
		}
	}
	for _, d := range []api.Design{example(), design(1, 0), design(1, 1), design(24, 1<<24-1, 0), design(24, make([]int, 60)...), design(6, 63)} {
		if e := point.Check(d); e != api.OK {
			t.Error(d, e)
		}
	}
}

// P1.1: every function has the errors of its designs first, one design after the other; P1, R2: with zero values.
func TestErrorsOfDesignsComeFirst(t *testing.T) {
	for _, f := range calls() {
		for _, c := range invalid {
			for bad := range f.designs {
				// Designs before the bad one are valid, those after it have another error; sizes do not fit either.
				d := []api.Design{design(2, 1), design(3, 1, 2), design(4, 1, 2, 3)}
				d[bad] = c.d
				for after := bad + 1; after < len(d); after++ {
					d[after] = design(6)
					if c.e == api.ErrNone {
						d[after] = design(0)
					}
				}
				results, e := f.call(d...)
				if e != c.e {
					t.Error(f.name, bad, c.d, e, "is not", c.e)
				}
				if slices.ContainsFunc(results, func(n int) bool { return n != 0 }) {
					t.Error(f.name, bad, c.d, "has results", results)
				}
			}
		}
	}
}

// naive returns all floats of lines of points, by their definition.
func naive(d api.Design, along api.PointAlong, bound int) []api.PointFloat {
	lines, size := len(d.Rows), d.Hooks
	at := func(line, place int) bool { return up(d, line, place) }
	if along == api.PointWarp {
		lines, size = d.Hooks, len(d.Rows)
		at = func(line, place int) bool { return up(d, place, line) }
	}
	var l []api.PointFloat
	add := func(line, place, length int) {
		f := float(line, place, length, at(line, place))
		if along == api.PointWarp {
			f.Pick, f.Hook = f.Hook, f.Pick
		}
		if length > bound {
			l = append(l, f)
		}
	}
	for line := range lines {
		found := false
		for first := range size {
			for length := 1; length < size; length++ {
				alike := true
				for i := range length {
					alike = alike && at(line, first+i) == at(line, first)
				}
				if alike && at(line, first-1) != at(line, first) && at(line, first+length) != at(line, first) {
					add(line, first, length)
					found = true
				}
			}
		}
		if !found {
			add(line, 0, api.PointEndless)
		}
	}
	return l
}

// P1.2: the floats of the example, round edges, along both directions.
func TestFloats(t *testing.T) {
	above2 := []api.PointFloat{float(0, 0, 3, true), float(0, 3, 3, false), float(1, 0, 3, false), float(1, 3, 3, true), float(2, 0, 1000, false)}
	for _, c := range []struct {
		d     api.Design
		along api.PointAlong
		bound int
		l     []api.PointFloat
	}{
		{example(), api.PointWeft, 2, above2},
		{example(), api.PointWeft, 3, above2[4:]},
		{example(), api.PointWeft, 999, above2[4:]},
		{example(), api.PointWeft, 1000, nil},
		{example(), api.PointWarp, 2, []api.PointFloat{float(1, 1, 3, false), float(2, 3, 3, false), float(2, 5, 3, false)}},
		{design(5, 0b10011), api.PointWeft, 0, []api.PointFloat{float(0, 2, 2, false), float(0, 4, 3, true)}},
		{design(2, 1, 0, 1), api.PointWarp, 0, []api.PointFloat{float(1, 0, 1, false), float(2, 0, 2, true), float(0, 1, 1000, false)}},
		{design(1, 1), api.PointWeft, 0, []api.PointFloat{float(0, 0, 1000, true)}},
		{design(1, 1), api.PointWarp, 999, []api.PointFloat{float(0, 0, 1000, true)}},
		{design(24, 1), api.PointWeft, 22, []api.PointFloat{float(0, 1, 23, false)}},
		{design(24, 1), api.PointWeft, 23, nil},
	} {
		if l, e := point.Floats(c.d, c.along, c.bound); e != api.OK || !slices.Equal(l, c.l) {
			t.Error(c.d, c.along, c.bound, l, e)
		}
	}
}

// P1.2: all floats of many designs, in their order.
func TestFloatsByDefinition(t *testing.T) {
	for _, d := range samples(400) {
		for _, along := range []api.PointAlong{api.PointWeft, api.PointWarp} {
			for _, bound := range []int{0, 1, 2, 5, 59, 60, 999, 1000} {
				l := must[[]api.PointFloat](t)(point.Floats(d, along, bound))
				if want := naive(d, along, bound); !slices.Equal(l, want) {
					t.Fatal(d, along, bound, l, want)
				}
			}
		}
	}
}

// P1.2: the errors, in their order.
func TestFloatsErrors(t *testing.T) {
	for _, c := range []struct {
		along api.PointAlong
		bound int
		e     api.Errno
	}{
		{0, 2, api.ErrArg}, {3, 2, api.ErrArg}, {-1, 2, api.ErrArg}, {0, -1, api.ErrArg}, {3, 1001, api.ErrArg},
		{1, -1, api.ErrRange}, {2, -1, api.ErrRange}, {1, 1001, api.ErrRange}, {2, 1 << 62, api.ErrRange},
	} {
		if l, e := point.Floats(example(), c.along, c.bound); e != c.e || len(l) != 0 {
			t.Error(c, l, e)
		}
	}
}

// P1.3: the longest floats of each side.
func TestLongest(t *testing.T) {
	for _, c := range []struct {
		d api.Design
		l api.PointLongest
	}{
		{example(), api.PointLongest{WeftFace: 1000, WeftBack: 3, WarpFace: 2, WarpBack: 3}},
		{design(2, 1, 2), api.PointLongest{WeftFace: 1, WeftBack: 1, WarpFace: 1, WarpBack: 1}},
		{design(1, 1), api.PointLongest{WeftBack: 1000, WarpFace: 1000}},
		{design(1, 0), api.PointLongest{WeftFace: 1000, WarpBack: 1000}},
		{design(5, 3, 3), api.PointLongest{WeftFace: 3, WeftBack: 2, WarpFace: 1000, WarpBack: 1000}},
		{design(1, 0, 1, 1), api.PointLongest{WeftFace: 1000, WeftBack: 1000, WarpFace: 2, WarpBack: 1}},
	} {
		if l, e := point.Longest(c.d); e != api.OK || l != c.l {
			t.Error(c.d, l, e)
		}
	}
	for _, d := range samples(300) {
		var want api.PointLongest
		for _, f := range naive(d, api.PointWeft, 0) {
			if f.Lifted {
				want.WeftBack = max(want.WeftBack, f.Length)
			} else {
				want.WeftFace = max(want.WeftFace, f.Length)
			}
		}
		for _, f := range naive(d, api.PointWarp, 0) {
			if f.Lifted {
				want.WarpFace = max(want.WarpFace, f.Length)
			} else {
				want.WarpBack = max(want.WarpBack, f.Length)
			}
		}
		if l := must[api.PointLongest](t)(point.Longest(d)); l != want {
			t.Fatal(d, l, want)
		}
	}
}
