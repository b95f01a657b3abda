package chain_test

import (
	"slices"
	"testing"

	"griffe/api"
	"griffe/chain"
)

// inOrder reports whether numbers ascend strictly, read around from some one on.
func inOrder(numbers []int) bool {
	for first := range numbers {
		around := slices.Concat(numbers[first:], numbers[:first])
		ascend := true
		for at := 1; at < len(around); at++ {
			ascend = ascend && around[at-1] < around[at]
		}
		if ascend {
			return true
		}
	}
	return len(numbers) == 0
}

// without returns the numbers of a chain but those of some places.
func without(numbers, places []int) []int {
	var l []int
	for at, n := range numbers {
		if !slices.Contains(places, at) {
			l = append(l, n)
		}
	}
	return l
}

// smallestMoved returns the smallest one of the shortest lists of places without which numbers are in order, by trying all of them.
func smallestMoved(numbers []int) []int {
	var best []int
	found := false
	for set := range 1 << len(numbers) {
		var places []int
		for at := range numbers {
			if set>>at&1 == 1 {
				places = append(places, at)
			}
		}
		better := !found || len(places) < len(best) || len(places) == len(best) && slices.Compare(places, best) < 0
		if better && inOrder(without(numbers, places)) {
			best, found = places, true
		}
	}
	return best
}

// permutations calls f with all orders of the numbers from 0 on.
func permutations(many int, f func(numbers []int)) {
	var further func(numbers []int)
	further = func(numbers []int) {
		if len(numbers) == many {
			f(numbers)
			return
		}
		for n := range many {
			if !slices.Contains(numbers, n) {
				further(append(slices.Clone(numbers), n))
			}
		}
	}
	further(nil)
}

// P2.4: the examples, and lists of which several are shortest.
func TestMoved(t *testing.T) {
	for _, c := range []struct{ numbers, places []int }{
		{[]int{0, 3, 1, 2, 4}, []int{1}},
		{[]int{3, 4, 0, 1, 2}, nil},
		{[]int{7}, nil},
		{[]int{9, 2}, nil},
		{[]int{2, 1, 0}, []int{0}},
		{[]int{0, 2, 1, 3}, []int{1}},
		{[]int{1, 0, 2, 3}, []int{0}},
		{[]int{3, 2, 1, 0}, []int{0, 1}},
		{[]int{10, 0, 20, 30, 40, 59}, []int{0}},
		{[]int{5, 50, 10, 40, 20, 30}, []int{0, 3}},
		{[]int{0, 1, 2, 3, 59, 4, 5}, []int{4}},
		{[]int{4, 5, 59, 0, 1, 2, 3}, nil},
		{[]int{4, 59, 5, 0, 1, 2, 3}, []int{1}},
	} {
		if l, e := chain.Moved(numbered(c.numbers...)); e != api.OK || !slices.Equal(l, c.places) {
			t.Error(c, l, e)
		}
	}
}

// P2.4, P2.15: all orders of few cards.
func TestMovedByTryingAllLists(t *testing.T) {
	for many := 1; many <= 6; many++ {
		permutations(many, func(numbers []int) {
			l, e := chain.Moved(numbered(numbers...))
			if want := smallestMoved(numbers); e != api.OK || !slices.Equal(l, want) {
				t.Fatal(numbers, l, e, want)
			}
		})
	}
}

// P2.4, P2.15: orders of some more cards, with numbers that are far apart.
func TestMovedByTryingMoreCards(t *testing.T) {
	r := source(6)
	for i := range 300 {
		numbers := r.Perm(api.MaxChainCards)[:7+i%5]
		l, e := chain.Moved(numbered(numbers...))
		if want := smallestMoved(numbers); e != api.OK || !slices.Equal(l, want) {
			t.Fatal(numbers, l, e, want)
		}
	}
}

// longest returns how many numbers can stay: the longest strictly ascending list from each number on, around.
func longest(numbers []int) int {
	best := 0
	for first := range numbers {
		around := slices.Concat(numbers[first:], numbers[:first])
		long := make([]int, len(around))
		for at := range around {
			for before := range at {
				if around[before] >= around[0] && around[before] < around[at] && long[before] > 0 {
					long[at] = max(long[at], long[before]+1)
				}
			}
			if at == 0 {
				long[at] = 1
			}
			best = max(best, long[at])
		}
	}
	return best
}

// P2.15: without the cards that are moved the others are in order, and no fewer would do; none is moved just if the chain is in order.
func TestTheFewest(t *testing.T) {
	r := source(7)
	for i := range 400 {
		numbers := r.Perm(api.MaxChainCards)[:1+r.IntN(api.MaxChainCards)]
		if i%2 == 0 {
			slices.Sort(numbers)
			cut := r.IntN(len(numbers))
			numbers = slices.Concat(numbers[cut:], numbers[:cut])
			for range r.IntN(4) {
				a, b := r.IntN(len(numbers)), r.IntN(len(numbers))
				numbers[a], numbers[b] = numbers[b], numbers[a]
			}
		}
		l := must[[]int](t)(chain.Moved(numbered(numbers...)))
		if !slices.IsSorted(l) || !inOrder(without(numbers, l)) || len(numbers)-len(l) != longest(numbers) {
			t.Fatal(numbers, l, longest(numbers))
		}
		if (len(l) == 0) != inOrder(numbers) {
			t.Fatal(numbers, l)
		}
		for _, at := range l {
			if fewer := slices.DeleteFunc(slices.Clone(l), func(n int) bool { return n == at }); inOrder(without(numbers, fewer)) {
				t.Fatal(numbers, l, "is more than", fewer)
			}
		}
	}
}

// P2.5: the cards by their numbers, none of them turned, with their rows as they were punched.
func TestMend(t *testing.T) {
	for _, c := range []struct{ before, after api.ChainBelt }{
		{example(), belt(4, card(0, 1), card(1, 2), card(2, 4), card(3, 8), card(4, 15))},
		{belt(4, endForEnd(card(9, 1)), card(59, 2), endForEnd(card(3, 4))), belt(4, card(3, 4), card(9, 1), card(59, 2))},
		{belt(4, endForEnd(card(7, 8))), belt(4, card(7, 8))},
		{belt(4, card(3, 1), card(4, 2), card(0, 3)), belt(4, card(0, 3), card(3, 1), card(4, 2))},
	} {
		if after, e := chain.Mend(c.before); e != api.OK || !same(after, c.after) {
			t.Error(c.before, after, e)
		}
	}
}

// P2.5: many chains; none of their cards is moved then.
func TestMendedChains(t *testing.T) {
	for _, b := range samples(300) {
		after, e := chain.Mend(b)
		if e != api.OK {
			continue
		}
		want := slices.Clone(b.Cards)
		slices.SortFunc(want, func(x, y api.ChainCard) int { return x.Number - y.Number })
		for at := range want {
			want[at].Turned = false
		}
		if !same(after, belt(b.Hooks, want...)) {
			t.Fatal(b, after)
		}
		if l, e := chain.Moved(after); e != api.OK || len(l) != 0 {
			t.Fatal(after, l, e)
		}
	}
}

// P2.4, P2.5: the errors, in their order.
func TestOrderErrors(t *testing.T) {
	for _, c := range []struct {
		numbers []int
		e       api.Errno
	}{
		{[]int{-1}, api.ErrState}, {[]int{0, -1}, api.ErrState}, {[]int{5, 5, -1}, api.ErrState}, {[]int{-1, -1}, api.ErrState}, {[]int{-1, 5, 5}, api.ErrState},
		{[]int{5, 5}, api.ErrTwice}, {[]int{0, 1, 2, 0}, api.ErrTwice}, {[]int{59, 1, 59, 1}, api.ErrTwice},
	} {
		if l, e := chain.Moved(numbered(c.numbers...)); e != c.e || len(l) != 0 {
			t.Error(c, l, e)
		}
		if b, e := chain.Mend(numbered(c.numbers...)); e != c.e || !same(b, api.ChainBelt{}) {
			t.Error(c, b, e)
		}
	}
}
