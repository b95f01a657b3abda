package chain_test

import (
	"slices"
	"testing"

	"griffe/api"
	"griffe/chain"
)

// part returns cards with numbers, loose the same ones of which nobody knows which end came first.
func part(numbers ...int) api.ChainPart {
	var p api.ChainPart
	for at, n := range numbers {
		p.Cards = append(p.Cards, api.ChainCard{Number: n, Row: at % 8, Turned: at%3 == 0})
	}
	return p
}

func loose(numbers ...int) api.ChainPart {
	p := part(numbers...)
	p.Loose = true
	return p
}

// blots returns so many cards none of whose numbers can be read.
func blots(many int) []int { return slices.Repeat([]int{api.ChainBlot}, many) }

func torn(length int, parts ...api.ChainPart) api.ChainTorn {
	return api.ChainTorn{Hooks: 4, Length: length, Parts: parts}
}

// tornExample is the torn chain of the chapter's examples.
func tornExample() api.ChainTorn { return torn(6, part(2, -1), part(-1), loose(-1, 5)) }

var tornSamples = tornChains(120)

// tornChains returns short torn chains, most of which truly lay in some way.
func tornChains(many int) []api.ChainTorn {
	r := source(10)
	var l []api.ChainTorn
	for i := range many {
		t := torn(1 + r.IntN(8))
		at, left := r.IntN(t.Length), t.Length
		for len(t.Parts) < 4 && left > 0 {
			size := 1 + r.IntN(min(left, 4))
			var numbers []int
			for card := range size {
				n := (at + card) % t.Length
				if r.IntN(5) > 0 {
					n = api.ChainBlot
				}
				if i%8 == 0 && r.IntN(9) == 0 {
					n = r.IntN(t.Length + 1)
				}
				numbers = append(numbers, n)
			}
			p := part(numbers...)
			if r.IntN(2) == 0 {
				p.Loose = true
				if r.IntN(2) == 0 {
					slices.Reverse(p.Cards)
				}
			}
			t.Parts = append(t.Parts, p)
			gap := r.IntN(3)
			at, left = at+size+gap, left-size-gap
		}
		r.Shuffle(len(t.Parts), func(i, j int) { t.Parts[i], t.Parts[j] = t.Parts[j], t.Parts[i] })
		l = append(l, t)
	}
	return l
}

// layings returns all layings, from the smallest one on, by giving each card each place.
func layings(t api.ChainTorn) [][]int {
	var l [][]int
	var further func(part, card int, places []int)
	further = func(part, card int, places []int) {
		if part == len(t.Parts) {
			l = append(l, slices.Clone(places))
			return
		}
		if card == len(t.Parts[part].Cards) {
			if laced(t, t.Parts[part], places[len(places)-card:]) {
				further(part+1, 0, places)
			}
			return
		}
		for place := range t.Length {
			n := t.Parts[part].Cards[card].Number
			if !slices.Contains(places, place) && (n == api.ChainBlot || n == place) {
				further(part, card+1, append(slices.Clone(places), place))
			}
		}
	}
	further(0, 0, nil)
	return l
}

// laced reports whether the cards of a part can have these places.
func laced(t api.ChainTorn, p api.ChainPart, places []int) bool {
	forth, back := true, p.Loose
	for at := 1; at < len(places); at++ {
		forth = forth && places[at] == (places[at-1]+1)%t.Length
		back = back && places[at-1] == (places[at]+1)%t.Length
	}
	return forth || back
}

// inParts returns the places of a laying by parts.
func inParts(t api.ChainTorn, places []int) [][]int {
	var l [][]int
	for _, p := range t.Parts {
		l = append(l, places[:len(p.Cards)])
		places = places[len(p.Cards):]
	}
	return l
}

func sameLists(a, b [][]int) bool {
	return slices.EqualFunc(a, b, func(x, y []int) bool { return slices.Equal(x, y) })
}

// P2.9: the errors of a torn chain, in their order, which all functions have first, with zero values.
func TestTornErrors(t *testing.T) {
	many := slices.Repeat([]api.ChainPart{part(-1)}, 9)
	long := part(blots(13)...)
	wrong := api.ChainPart{Cards: []api.ChainCard{card(0, 16)}}
	for _, c := range []struct {
		t api.ChainTorn
		e api.Errno
	}{
		{api.ChainTorn{}, api.ErrRange},
		{api.ChainTorn{Length: 6, Parts: many}, api.ErrRange},
		{api.ChainTorn{Hooks: -1, Length: 6, Parts: []api.ChainPart{part(-1)}}, api.ErrRange},
		{api.ChainTorn{Hooks: 25, Length: 6, Parts: []api.ChainPart{part(-1)}}, api.ErrRange},
		{api.ChainTorn{Hooks: 1 << 62, Length: 6}, api.ErrRange},
		{torn(0, part(-1)), api.ErrRange},
		{torn(-1, many...), api.ErrRange},
		{torn(25, long), api.ErrRange},
		{torn(1<<63-1, part(-1)), api.ErrRange},
		{torn(6, many...), api.ErrLong},
		{torn(24, long), api.ErrLong},
		{torn(24, wrong, api.ChainPart{}, long), api.ErrLong},
		{torn(6), api.ErrArg},
		{torn(6, part(-1), part()), api.ErrArg},
		{torn(6, part(), part(-1)), api.ErrArg},
		{torn(6, wrong), api.ErrArg},
		{torn(6, part(0), part(1, -2)), api.ErrArg},
		{torn(6, part(60)), api.ErrArg},
		{torn(6, loose(-1<<63)), api.ErrArg},
		{torn(6, part(-1), api.ChainPart{Cards: []api.ChainCard{card(-1, -1)}}), api.ErrArg},
	} {
		if e := chain.Torn(c.t); e != c.e {
			t.Error(c, e)
		}
		if n, e := chain.Count(c.t); e != c.e || n != 0 {
			t.Error("Count", c, n, e)
		}
		if l, e := chain.Lay(c.t); e != c.e || len(l) != 0 {
			t.Error("Lay", c, l, e)
		}
		if l, e := chain.Places(c.t, -1, 99); e != c.e || len(l) != 0 {
			t.Error("Places", c, l, e)
		}
		if l, e := chain.Lost(c.t); e != c.e || len(l) != 0 {
			t.Error("Lost", c, l, e)
		}
	}
}

// P2.9: the limits of a torn chain. A number that no place has is none that is not valid.
func TestTornLimits(t *testing.T) {
	top := api.ChainPart{Cards: []api.ChainCard{{Number: 59, Row: 1<<24 - 1, Turned: true}}}
	for _, c := range []api.ChainTorn{
		tornExample(), torn(1, part(-1)), torn(24, part(blots(12)...)), torn(1, part(blots(12)...)),
		torn(24, slices.Repeat([]api.ChainPart{part(-1)}, 8)...), {Hooks: 24, Length: 24, Parts: []api.ChainPart{top}}, torn(2, part(0, 0)),
		{Hooks: 1, Length: 2, Parts: []api.ChainPart{{Cards: []api.ChainCard{card(-1, 1)}, Loose: true}}},
	} {
		if e := chain.Torn(c); e != api.OK {
			t.Error(c, e)
		}
	}
	for _, c := range append(tornSamples, tornExample()) {
		if e := chain.Torn(c); e != api.OK {
			t.Error(c, e)
		}
	}
}

// P2.10 to P2.13: the examples, and edges.
func TestLayings(t *testing.T) {
	known := tornExample()
	known.Parts[1] = part(4)
	for _, c := range []struct {
		t     api.ChainTorn
		count int
		lay   [][]int
		lost  []int
	}{
		{tornExample(), 4, [][]int{{2, 3}, {0}, {4, 5}}, nil},
		{known, 1, [][]int{{2, 3}, {4}, {0, 5}}, []int{1}},
		{torn(1, part(-1)), 1, [][]int{{0}}, nil},
		{torn(1, loose(0)), 1, [][]int{{0}}, nil},
		{torn(5, loose(-1)), 5, [][]int{{0}}, nil},
		{torn(2, part(-1, -1)), 2, [][]int{{0, 1}}, nil},
		{torn(2, loose(-1, -1)), 2, [][]int{{0, 1}}, nil},
		{torn(2, loose(1, -1)), 1, [][]int{{1, 0}}, nil},
		{torn(3, loose(-1, -1)), 6, [][]int{{0, 1}}, nil},
		{torn(3, part(-1, -1, -1)), 3, [][]int{{0, 1, 2}}, nil},
		{torn(3, loose(-1, -1, -1)), 6, [][]int{{0, 1, 2}}, nil},
		{torn(3, loose(0, 2, -1)), 1, [][]int{{0, 2, 1}}, nil},
		{torn(6, part(5, -1, -1)), 1, [][]int{{5, 0, 1}}, []int{2, 3, 4}},
		{torn(6, loose(-1, 0, -1)), 2, [][]int{{1, 0, 5}}, []int{2, 3, 4}},
		{torn(6, part(3), part(-1, -1, -1, -1)), 2, [][]int{{3}, {4, 5, 0, 1}}, nil},
		{torn(6, part(0), part(3), part(-1, -1)), 2, [][]int{{0}, {3}, {1, 2}}, nil},
		{torn(5, part(-1, -1), part(0), loose(-1, -1)), 4, [][]int{{1, 2}, {0}, {3, 4}}, nil},
	} {
		if n, e := chain.Count(c.t); e != api.OK || n != c.count {
			t.Error(c, n, e)
		}
		if l, e := chain.Lay(c.t); e != api.OK || !sameLists(l, c.lay) {
			t.Error(c, l, e)
		}
		if l, e := chain.Lost(c.t); e != api.OK || !slices.Equal(l, c.lost) {
			t.Error(c, l, e)
		}
	}
	for _, c := range []struct {
		part, card int
		places     []int
	}{
		{0, 0, []int{2}}, {0, 1, []int{3}}, {1, 0, []int{0, 1, 4}}, {2, 0, []int{0, 4}}, {2, 1, []int{5}},
	} {
		if l, e := chain.Places(tornExample(), c.part, c.card); e != api.OK || !slices.Equal(l, c.places) {
			t.Error(c, l, e)
		}
	}
}

// P2.10 to P2.13: chains of which there is no laying.
func TestNoLaying(t *testing.T) {
	for _, c := range []api.ChainTorn{
		torn(6, part(6)), torn(6, part(59)), torn(6, part(2), part(2)), torn(6, part(2, 2)), torn(6, part(0, 2)), torn(6, part(1, 0)), torn(6, part(-1), part(1, 0)),
		torn(1, part(-1, -1)), torn(1, loose(-1, -1)), torn(3, part(-1, -1), part(-1, -1)), torn(3, loose(blots(12)...)), torn(2, part(-1), part(-1), part(-1)),
		torn(6, part(0), part(3), part(-1, -1, -1)), torn(6, part(-1, -1, -1), part(3), part(0)), torn(24, part(blots(12)...), part(blots(12)...), part(-1)),
	} {
		if n, e := chain.Count(c); e != api.OK || n != 0 {
			t.Error(c, n, e)
		}
		if l, e := chain.Lay(c); e != api.ErrState || len(l) != 0 {
			t.Error(c, l, e)
		}
		if l, e := chain.Places(c, 0, 0); e != api.ErrState || len(l) != 0 {
			t.Error(c, l, e)
		}
		if l, e := chain.Lost(c); e != api.ErrState || len(l) != 0 {
			t.Error(c, l, e)
		}
	}
}

// P2.12: the errors, in their order.
func TestPlacesErrors(t *testing.T) {
	impossible := torn(6, part(2, 2), part(-1))
	for _, c := range []struct {
		t          api.ChainTorn
		part, card int
		e          api.Errno
	}{
		{tornExample(), -1, 0, api.ErrNone}, {tornExample(), 3, 0, api.ErrNone}, {tornExample(), 0, -1, api.ErrNone}, {tornExample(), 0, 2, api.ErrNone}, {tornExample(), 1, 1, api.ErrNone},
		{tornExample(), 1<<63 - 1, 0, api.ErrNone}, {tornExample(), 0, -1 << 63, api.ErrNone},
		{impossible, 2, 0, api.ErrNone}, {impossible, 0, 2, api.ErrNone}, {impossible, 0, 1, api.ErrState}, {impossible, 1, 0, api.ErrState},
	} {
		if l, e := chain.Places(c.t, c.part, c.card); e != c.e || len(l) != 0 {
			t.Error(c, l, e)
		}
	}
}

// P2.10 to P2.13: many torn chains, by giving each card each place.
func TestLayingsByTryingAll(t *testing.T) {
	for _, c := range tornChains(1500) {
		all := layings(c)
		if n, e := chain.Count(c); e != api.OK || n != len(all) {
			t.Fatal(c, n, e, len(all))
		}
		lay, e := chain.Lay(c)
		lost, f := chain.Lost(c)
		if len(all) == 0 {
			if e != api.ErrState || f != api.ErrState || len(lay)+len(lost) != 0 {
				t.Fatal(c, lay, lost, e, f)
			}
			continue
		}
		if e != api.OK || !sameLists(lay, inParts(c, all[0])) {
			t.Fatal(c, lay, e, all[0])
		}
		held := map[int]bool{}
		card := 0
		for p := range c.Parts {
			for at := range c.Parts[p].Cards {
				var want []int
				for place := range c.Length {
					if slices.ContainsFunc(all, func(places []int) bool { return places[card] == place }) {
						want = append(want, place)
						held[place] = true
					}
				}
				if l, e := chain.Places(c, p, at); e != api.OK || !slices.Equal(l, want) {
					t.Fatal(c, p, at, l, e, want)
				}
				card++
			}
		}
		var want []int
		for place := range c.Length {
			if !held[place] {
				want = append(want, place)
			}
		}
		if f != api.OK || !slices.Equal(lost, want) {
			t.Fatal(c, lost, f, want)
		}
	}
}

// P2.10: as many layings as there can be.
func TestCountOfMany(t *testing.T) {
	singles := slices.Repeat([]api.ChainPart{loose(-1)}, 8)
	pairs := slices.Repeat([]api.ChainPart{loose(-1, -1)}, 8)
	threes := slices.Repeat([]api.ChainPart{part(-1, -1, -1)}, 8)
	for _, c := range []struct {
		t     api.ChainTorn
		count int
	}{
		{torn(24, singles...), 24 * 23 * 22 * 21 * 20 * 19 * 18 * 17},
		// one pair at any of 24 places, then 7 pairs and 8 places in a line, each pair in two orders
		{torn(24, pairs...), 24 * 15 * 14 * 13 * 12 * 11 * 10 * 9 * 256},
		{torn(24, threes...), 24 * 7 * 6 * 5 * 4 * 3 * 2},
		{torn(24, part(blots(12)...), loose(blots(12)...)), 48},
	} {
		if n, e := chain.Count(c.t); e != api.OK || n != c.count {
			t.Error(c.t, n, e, c.count)
		}
		if l, e := chain.Lay(c.t); e != api.OK || l[0][0] != 0 {
			t.Error(c.t, l, e)
		}
		if l, e := chain.Places(c.t, 1, 0); e != api.OK || len(l) != 24 {
			t.Error(c.t, l, e)
		}
		if l, e := chain.Lost(c.t); e != api.OK || len(l) != 0 {
			t.Error(c.t, l, e)
		}
	}
}

// changed returns a torn chain with another part in the place of one.
func changed(t api.ChainTorn, at int, p api.ChainPart) api.ChainTorn {
	t.Parts = slices.Clone(t.Parts)
	t.Parts[at] = p
	return t
}

// tryNumbers reads each number on a card that could not be read: the layings with these numbers are all that there are.
func tryNumbers(t *testing.T, c api.ChainTorn, p, at, count int) {
	t.Helper()
	readable := c.Parts[p]
	readable.Cards = slices.Clone(readable.Cards)
	if readable.Cards[at].Number != api.ChainBlot {
		return
	}
	places := must[[]int](t)(chain.Places(c, p, at))
	sum := 0
	for place := range c.Length {
		readable.Cards[at].Number = place
		known := changed(c, p, readable)
		n := must[int](t)(chain.Count(known))
		if n > count || (n > 0) != slices.Contains(places, place) {
			t.Fatal(known, n, count, places)
		}
		sum += n
	}
	if sum != count {
		t.Fatal(c, p, at, sum, count)
	}
}

// P2.17: how parts truly lay is a laying, and more that is known makes no more layings, less no fewer.
func TestTogether(t *testing.T) {
	r := source(11)
	for range 300 {
		c := torn(6 + r.IntN(19))
		var truth [][]int
		left := c.Length
		for at := r.IntN(c.Length); left > 0 && len(c.Parts) < 5; {
			size := 1 + r.IntN(min(left, 5))
			var places, numbers []int
			for card := range size {
				places = append(places, (at+card)%c.Length)
				numbers = append(numbers, api.ChainBlot)
			}
			p := part(numbers...)
			if p.Loose = r.IntN(3) == 0; p.Loose && r.IntN(2) == 0 {
				slices.Reverse(places)
			}
			for card := range places {
				if r.IntN(4) == 0 {
					p.Cards[card].Number = places[card]
				}
			}
			c.Parts = append(c.Parts, p)
			truth = append(truth, places)
			gap := r.IntN(4)
			at, left = at+size+gap, left-size-gap
		}
		count := must[int](t)(chain.Count(c))
		lay := must[[][]int](t)(chain.Lay(c))
		lost := must[[]int](t)(chain.Lost(c))
		if count < 1 || slices.Compare(slices.Concat(lay...), slices.Concat(truth...)) > 0 {
			t.Fatal(c, truth, count, lay)
		}
		for p, places := range truth {
			for at, place := range places {
				l := must[[]int](t)(chain.Places(c, p, at))
				if !slices.Contains(l, place) || !slices.Contains(l, lay[p][at]) || slices.Contains(lost, place) {
					t.Fatal(c, truth, p, at, l, lay, lost)
				}
			}
		}
		p := r.IntN(len(c.Parts))
		tryNumbers(t, c, p, r.IntN(len(c.Parts[p].Cards)), count)
		free := c.Parts[p]
		free.Loose = true
		if n := must[int](t)(chain.Count(changed(c, p, free))); n < count {
			t.Fatal(c, p, n, count)
		}
		c.Parts = slices.Delete(slices.Clone(c.Parts), p, p+1)
		if len(c.Parts) > 0 && must[int](t)(chain.Count(c)) == 0 {
			t.Fatal(c)
		}
	}
}

// P2.17: if all numbers can be read, there is one laying, or none.
func TestAllNumbersAreKnown(t *testing.T) {
	for _, c := range tornChains(600) {
		all := layings(c)
		if len(all) == 0 {
			continue
		}
		for p, places := range inParts(c, all[len(all)-1]) {
			cards := slices.Clone(c.Parts[p].Cards)
			for at := range cards {
				cards[at].Number = places[at]
			}
			c.Parts[p].Cards = cards
		}
		if n, e := chain.Count(c); e != api.OK || n != 1 {
			t.Fatal(c, n, e)
		}
		cards := c.Parts[0].Cards
		cards[0].Number = (cards[0].Number + 1) % 7
		if n, e := chain.Count(c); e != api.OK || n > 1 {
			t.Fatal(c, n, e)
		}
	}
}
