package chain_test

import (
	"math/rand/v2"
	"reflect"
	"slices"
	"testing"

	"griffe/api"
	"griffe/chain"
)

// card returns a card, end for end that card turned.
func card(number, row int) api.ChainCard { return api.ChainCard{Number: number, Row: row} }

func endForEnd(c api.ChainCard) api.ChainCard {
	c.Turned = !c.Turned
	return c
}

func belt(hooks int, cards ...api.ChainCard) api.ChainBelt {
	return api.ChainBelt{Hooks: hooks, Cards: cards}
}

// numbered returns a chain of cards with these numbers, whose rows are their numbers too.
func numbered(numbers ...int) api.ChainBelt {
	b := belt(6)
	for _, n := range numbers {
		b.Cards = append(b.Cards, card(n, max(n, 0)))
	}
	return b
}

// example is the chain of the chapter's examples.
func example() api.ChainBelt {
	return belt(4, card(0, 1), card(3, 8), card(1, 2), card(2, 4), card(4, 15))
}

func same(a, b api.ChainBelt) bool { return a.Hooks == b.Hooks && slices.Equal(a.Cards, b.Cards) }

// must returns a result that has no error.
func must[T any](t *testing.T) func(v T, e api.Errno) T {
	return func(v T, e api.Errno) T {
		t.Helper()
		if e != api.OK {
			t.Fatal("error", e)
		}
		return v
	}
}

func source(seed uint64) *rand.Rand { return rand.New(rand.NewPCG(seed, 60)) }

// samples returns chains, some of them with blots or with numbers twice, most of them with few different rows.
func samples(many int) []api.ChainBelt {
	r := source(2)
	var l []api.ChainBelt
	for i := range many {
		b := api.ChainBelt{Hooks: 1 + r.IntN(3)}
		cards := 1 + r.IntN(6)
		if i%6 == 0 {
			b.Hooks, cards = 1+r.IntN(api.MaxHooks), 1+r.IntN(api.MaxChainCards)
		}
		numbers := r.Perm(api.MaxChainCards)
		for at := range cards {
			c := api.ChainCard{Number: numbers[at], Row: r.IntN(1 << b.Hooks), Turned: r.IntN(3) == 0}
			if i%4 == 1 && r.IntN(4) == 0 {
				c.Number = api.ChainBlot
			}
			if i%4 == 2 && r.IntN(4) == 0 {
				c.Number = numbers[0]
			}
			b.Cards = append(b.Cards, c)
		}
		l = append(l, b)
	}
	return l
}

// lifts reports whether a card lifts a hook.
func lifts(hooks int, c api.ChainCard, hook int) bool {
	if c.Turned {
		hook = hooks - 1 - hook
	}
	return c.Row>>hook&1 == 1
}

// row returns the row that the card of a place lifts.
func row(b api.ChainBelt, at int) int {
	n := 0
	for hook := range b.Hooks {
		if lifts(b.Hooks, b.Cards[at], hook) {
			n += 1 << hook
		}
	}
	return n
}

// invalid is chains with their errors.
func invalid() []struct {
	b api.ChainBelt
	e api.Errno
} {
	many := make([]api.ChainCard, 61)
	return []struct {
		b api.ChainBelt
		e api.Errno
	}{
		{api.ChainBelt{}, api.ErrRange},
		{belt(0, card(0, 0)), api.ErrRange},
		{belt(-1, card(0, 0)), api.ErrRange},
		{belt(25, card(0, 0)), api.ErrRange},
		{belt(25, many...), api.ErrRange},
		{belt(-1 << 63), api.ErrRange},
		{belt(1<<63-1, card(99, -1)), api.ErrRange},
		{belt(4, many...), api.ErrLong},
		{belt(4, append(many, card(-2, 16))...), api.ErrLong},
		{belt(4), api.ErrArg},
		{api.ChainBelt{Hooks: 4, Cards: []api.ChainCard{}}, api.ErrArg},
		{belt(4, card(-2, 0)), api.ErrArg},
		{belt(4, card(60, 0)), api.ErrArg},
		{belt(4, card(0, 0), card(1<<63-1, 0)), api.ErrArg},
		{belt(4, card(0, -1)), api.ErrArg},
		{belt(4, card(0, 16)), api.ErrArg},
		{belt(4, card(0, 15), endForEnd(card(1, 16))), api.ErrArg},
		{belt(24, card(0, 1<<24)), api.ErrArg},
		{belt(1, card(-1, 2)), api.ErrArg},
		{belt(4, card(-1<<63, 0)), api.ErrArg},
		{belt(4, card(0, 1<<63-1)), api.ErrArg},
	}
}

// P2.1: the errors of a chain, and its limits.
func TestCheck(t *testing.T) {
	for _, c := range invalid() {
		if e := chain.Check(c.b); e != c.e {
			t.Error(c.b, e, "is not", c.e)
		}
	}
	for _, b := range append(samples(100), example(), belt(1, card(0, 0)), belt(24, card(59, 1<<24-1)), belt(4, card(-1, 15), card(-1, 15)), belt(4, make([]api.ChainCard, 60)...), belt(4, endForEnd(card(7, 0)))) {
		if e := chain.Check(b); e != api.OK {
			t.Error(b, e)
		}
	}
}

// P2.1: every function with a chain has its errors first; P1, R2: with zero values.
func TestErrorsOfChainsComeFirst(t *testing.T) {
	long := make([]int, 61)
	for _, c := range invalid() {
		for _, cloth := range [][]int{nil, {-2}, long} {
			rows, at, e := chain.Weave(c.b, -1, append(cloth, 3))
			if e != c.e || len(rows) != 0 || at != 0 {
				t.Error("Weave", c.b, rows, at, e)
			}
			first, steps, faults, e := chain.Course(c.b, cloth)
			if e != c.e || first != 0 || len(steps) != 0 || faults != 0 {
				t.Error("Course", c.b, first, steps, faults, e)
			}
			if n, e := chain.Ways(c.b, cloth, -1); e != c.e || n != 0 {
				t.Error("Ways", c.b, n, e)
			}
			if l, e := chain.Where(c.b, cloth, 7); e != c.e || len(l) != 0 {
				t.Error("Where", c.b, l, e)
			}
		}
		if l, e := chain.Moved(c.b); e != c.e || len(l) != 0 {
			t.Error("Moved", c.b, l, e)
		}
		if b, e := chain.Mend(c.b); e != c.e || !same(b, api.ChainBelt{}) {
			t.Error("Mend", c.b, b, e)
		}
	}
}

// P2.2: a card for each row.
func TestPunch(t *testing.T) {
	for _, c := range []struct {
		d api.Design
		b api.ChainBelt
	}{
		{api.Design{Hooks: 4, Rows: []int{1, 2, 4, 8, 15}}, belt(4, card(0, 1), card(1, 2), card(2, 4), card(3, 8), card(4, 15))},
		{api.Design{Hooks: 1, Rows: []int{0}}, belt(1, card(0, 0))},
		{api.Design{Hooks: 24, Rows: []int{1<<24 - 1, 1 << 23}}, belt(24, card(0, 1<<24-1), card(1, 1<<23))},
		{api.Design{Hooks: 3, Rows: []int{7, 7, 7}}, belt(3, card(0, 7), card(1, 7), card(2, 7))},
	} {
		if b, e := chain.Punch(c.d); e != api.OK || !same(b, c.b) {
			t.Error(c.d, b, e)
		}
	}
	b := must[api.ChainBelt](t)(chain.Punch(api.Design{Hooks: 2, Rows: make([]int, 60)}))
	if len(b.Cards) != 60 || b.Cards[59] != card(59, 0) {
		t.Error(b)
	}
}

// P2.2: the errors, in their order.
func TestPunchErrors(t *testing.T) {
	long := append(make([]int, 60), 64)
	for _, c := range []struct {
		hooks int
		rows  []int
		e     api.Errno
	}{
		{0, []int{0}, api.ErrArg}, {-1, nil, api.ErrArg}, {25, []int{0}, api.ErrArg}, {25, long, api.ErrArg}, {0, nil, api.ErrArg}, {1 << 62, []int{0}, api.ErrArg},
		{6, long, api.ErrLong}, {6, make([]int, 61), api.ErrLong},
		{6, nil, api.ErrNone}, {6, []int{}, api.ErrNone},
		{6, []int{64}, api.ErrArg}, {6, []int{63, -1}, api.ErrArg}, {1, []int{2}, api.ErrArg}, {24, []int{1 << 24}, api.ErrArg},
	} {
		if b, e := chain.Punch(api.Design{Hooks: c.hooks, Rows: c.rows}); e != c.e || !same(b, api.ChainBelt{}) {
			t.Error(c, b, e)
		}
	}
}

// P2.3: the examples, stays, skips, and chains that go round.
func TestWeave(t *testing.T) {
	turned := example()
	turned.Cards[0] = endForEnd(turned.Cards[0])
	for _, c := range []struct {
		b     api.ChainBelt
		first int
		steps []int
		rows  []int
		at    int
	}{
		{example(), 0, []int{1, 1, 0, 2}, []int{1, 8, 2, 2}, 4},
		{turned, 0, []int{1, 1, 0, 2}, []int{8, 8, 2, 2}, 4},
		{example(), 3, nil, nil, 3},
		{example(), 4, []int{0}, []int{15}, 4},
		{example(), 4, []int{1}, []int{15}, 0},
		{example(), 4, []int{2}, []int{15}, 1},
		{example(), 3, []int{2, 2, 2, 2, 2}, []int{4, 1, 2, 15, 8}, 3},
		{belt(3, card(-1, 6)), 0, []int{2, 1, 0}, []int{6, 6, 6}, 0},
		{belt(3, endForEnd(card(-1, 6)), card(-1, 1)), 1, []int{2, 1, 1}, []int{1, 1, 3}, 1},
		{belt(24, endForEnd(card(0, 5))), 0, []int{1}, []int{5 << 21}, 0},
	} {
		rows, at, e := chain.Weave(c.b, c.first, c.steps)
		if e != api.OK || !slices.Equal(rows, c.rows) || at != c.at {
			t.Error(c, rows, at, e)
		}
	}
}

// P2.3: courses of many chains, by the definition.
func TestWeaveByDefinition(t *testing.T) {
	r := source(3)
	for _, b := range samples(300) {
		at := r.IntN(len(b.Cards))
		first := at
		var steps, want []int
		for range r.IntN(61) {
			steps = append(steps, r.IntN(3))
			want = append(want, row(b, at))
			at = (at + steps[len(steps)-1]) % len(b.Cards)
		}
		rows, end, e := chain.Weave(b, first, steps)
		if e != api.OK || !slices.Equal(rows, want) || end != at {
			t.Fatal(b, first, steps, rows, end, e, want, at)
		}
	}
}

// P2.3: the errors, in their order.
func TestWeaveErrors(t *testing.T) {
	long := append(make([]int, 60), 3)
	for _, c := range []struct {
		first int
		steps []int
		e     api.Errno
	}{
		{-1, nil, api.ErrNone}, {5, nil, api.ErrNone}, {5, long, api.ErrNone}, {-1 << 63, []int{3}, api.ErrNone}, {1<<63 - 1, []int{1}, api.ErrNone},
		{4, long, api.ErrLong}, {0, make([]int, 61), api.ErrLong},
		{0, []int{1, 3}, api.ErrArg}, {0, []int{-1}, api.ErrArg}, {0, []int{1<<63 - 1}, api.ErrArg},
		{4, make([]int, 60), api.OK}, {0, []int{}, api.OK},
	} {
		rows, at, e := chain.Weave(example(), c.first, c.steps)
		if e != c.e || e != api.OK && (len(rows) != 0 || at != 0) {
			t.Error(c, rows, at, e)
		}
	}
}

// P2.14: the design is woven round after round; if all cards are turned, it is mirrored; after Mend any order weaves it.
func TestTheDesign(t *testing.T) {
	r := source(4)
	for _, sample := range samples(300) {
		d := api.Design{Hooks: sample.Hooks}
		for _, c := range sample.Cards {
			d.Rows = append(d.Rows, c.Row)
		}
		b := must[api.ChainBelt](t)(chain.Punch(d))
		steps := slices.Repeat([]int{1}, 60)
		rows, _, e := chain.Weave(b, 0, steps)
		for pick := range rows {
			if rows[pick] != d.Rows[pick%len(d.Rows)] {
				t.Fatal(d, rows, e)
			}
		}
		mirrored := api.ChainBelt{Hooks: b.Hooks}
		for _, c := range b.Cards {
			mirrored.Cards = append(mirrored.Cards, endForEnd(c))
		}
		back, _, e := chain.Weave(mirrored, 0, steps)
		for pick := range back {
			for hook := range d.Hooks {
				if back[pick]>>hook&1 != rows[pick]>>(d.Hooks-1-hook)&1 {
					t.Fatal(d, rows, back, e)
				}
			}
		}
		r.Shuffle(len(b.Cards), func(i, j int) { b.Cards[i], b.Cards[j] = b.Cards[j], b.Cards[i] })
		for at := range b.Cards {
			b.Cards[at].Turned = r.IntN(2) == 0
		}
		again, at, e := chain.Weave(must[api.ChainBelt](t)(chain.Mend(b)), 0, steps)
		if e != api.OK || !slices.Equal(again, rows) || at != 60%len(d.Rows) {
			t.Fatal(d, b, again, at, e)
		}
	}
}

// everything returns the results of all functions for a chain, a cloth, and a torn chain.
func everything(b api.ChainBelt, cloth, steps []int, t api.ChainTorn) []any {
	var l []any
	add := func(results ...any) { l = append(l, results...) }
	punched, e := chain.Punch(api.Design{Hooks: b.Hooks, Rows: cloth})
	add(chain.Check(b), chain.Torn(t), punched, e)
	rows, at, e := chain.Weave(b, 0, steps)
	add(rows, at, e)
	moved, e := chain.Moved(b)
	add(moved, e)
	mended, e := chain.Mend(b)
	add(mended, e)
	first, course, faults, e := chain.Course(b, cloth)
	add(first, course, faults, e)
	ways, e := chain.Ways(b, cloth, 3)
	add(ways, e)
	where, e := chain.Where(b, cloth, 3)
	add(where, e)
	count, e := chain.Count(t)
	add(count, e)
	lay, e := chain.Lay(t)
	add(lay, e)
	places, e := chain.Places(t, 0, 0)
	add(places, e)
	lost, e := chain.Lost(t)
	add(lost, e)
	return l
}

// spare returns a list that has room behind its end, and that room.
func spare[T any](l []T, behind T) (list, room []T) {
	room = append(slices.Clone(l), behind, behind, behind)
	return room[:len(l):len(room)], room
}

// overwrite writes into results, and behind their ends.
func overwrite(results []any) {
	for _, result := range results {
		switch r := result.(type) {
		case []int:
			for at := range r {
				r[at] = -9
			}
			_ = append(r, -9)
		case [][]int:
			for _, l := range r {
				overwrite([]any{l})
			}
		case api.ChainBelt:
			for at := range r.Cards {
				r.Cards[at] = card(-9, -9)
			}
			_ = append(r.Cards, card(-9, -9))
		}
	}
}

// P2, R4: equal results for equal arguments, which stay as they are, with what lies behind their ends; results are new memory.
func TestArgumentsAreKept(t *testing.T) {
	r := source(5)
	for i, b := range samples(150) {
		torn := tornSamples[i%len(tornSamples)]
		cloth := []int{row(b, 0), api.ChainUnseen, r.IntN(1 << b.Hooks)}[:1+r.IntN(3)]
		if r.IntN(3) == 0 {
			cloth = []int{0}
		}
		cards, cardRoom := spare(b.Cards, card(-7, -7))
		picks, pickRoom := spare(cloth, -7)
		steps, stepRoom := spare([]int{1, 0, 2}, -7)
		parts, partRoom := spare(torn.Parts, api.ChainPart{})
		part, tornRoom := spare(torn.Parts[0].Cards, card(-7, -7))
		parts[0].Cards = part
		kept := func() []any {
			return []any{slices.Clone(cardRoom), slices.Clone(pickRoom), slices.Clone(stepRoom), slices.Clone(partRoom), slices.Clone(tornRoom)}
		}
		results := func() []any {
			return everything(belt(b.Hooks, cards...), picks, steps, api.ChainTorn{Hooks: torn.Hooks, Length: torn.Length, Parts: parts})
		}
		before, first := kept(), results()
		again := results()
		if !reflect.DeepEqual(first, again) {
			t.Fatal(b, cloth, torn, first, again)
		}
		overwrite(first)
		if !reflect.DeepEqual(before, kept()) {
			t.Fatal(b, cloth, torn, "changed:", before, kept())
		}
		if last := results(); !reflect.DeepEqual(again, last) {
			t.Fatal(b, cloth, torn, again, last)
		}
	}
}

// R3: a nil list and an empty one are the same.
func TestNilIsEmpty(t *testing.T) {
	for _, empty := range [][]int{nil, {}} {
		rows, at, e := chain.Weave(example(), 2, empty)
		first, steps, faults, f := chain.Course(example(), empty)
		ways, g := chain.Ways(example(), empty, 0)
		if len(rows) != 0 || at != 2 || e != api.OK || first != 0 || len(steps) != 0 || faults != 0 || f != api.OK || ways != 5 || g != api.OK {
			t.Error(rows, at, e, first, steps, faults, f, ways, g)
		}
	}
}

// P1: no arguments lead to a panic, and results with an error are zero values.
func TestAnyArguments(t *testing.T) {
	odd := []int{-1 << 63, -1000, -2, -1, 0, 1, 2, 3, 6, 7, 12, 13, 24, 25, 59, 60, 61, 1000, 1<<63 - 1}
	zero := func(e api.Errno, results ...any) {
		t.Helper()
		for _, r := range results {
			v := reflect.ValueOf(r)
			if e != api.OK && !v.IsZero() && !(v.Kind() == reflect.Slice && v.Len() == 0) {
				t.Error("a result beside the error", e, r)
			}
		}
	}
	for _, a := range odd {
		for _, b := range odd {
			for _, c := range []api.ChainBelt{{}, example(), belt(a, card(b, a)), belt(4, card(a, b), card(b, a))} {
				rows, at, e := chain.Weave(c, a, []int{b})
				zero(e, rows, at)
				first, steps, faults, e := chain.Course(c, []int{a, b})
				zero(e, first, steps, faults)
				ways, e := chain.Ways(c, []int{a}, b)
				zero(e, ways)
				where, e := chain.Where(c, []int{a}, b)
				zero(e, where)
				moved, e := chain.Moved(c)
				zero(e, moved)
				mended, e := chain.Mend(c)
				zero(e, mended)
			}
			for _, c := range []api.ChainTorn{{}, {Hooks: 4, Length: a}, torn(a, part(b)), torn(6, part(a), loose(b, -1)), {Hooks: a, Length: b, Parts: []api.ChainPart{{}}}} {
				count, e := chain.Count(c)
				zero(e, count)
				lay, e := chain.Lay(c)
				zero(e, lay)
				places, e := chain.Places(c, a, b)
				zero(e, places)
				lost, e := chain.Lost(c)
				zero(e, lost)
			}
		}
	}
}
