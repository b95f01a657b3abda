package seam

import "griffe/api"

// pair is two lengths, a before b, of as many picks: how wide each pick can be.
type pair [2][]api.Span

// widths returns how wide each pick of a length can be.
func widths(l []api.SeamPart) []api.Span {
	var all []api.Span
	for _, part := range l {
		for range part.Picks {
			all = append(all, part.Width)
		}
	}
	return all
}

// edges is a span for each edge: what can have come together up to it.
type edges []api.Span

func sums(spans []api.Span) edges {
	all := edges{api.Span{}}
	for pick, s := range spans {
		all = append(all, plus(all[pick], s))
	}
	return all
}

func (p pair) picks() int { return len(p[0]) }

// gain returns by how much a can be wider than b at a pick.
func (p pair) gain(pick int) api.Span { return plus(p[0][pick], turned(p[1][pick])) }

// sums returns by how much a can be ahead at each edge without marks.
func (p pair) sums() edges {
	var gains []api.Span
	for pick := range p.picks() {
		gains = append(gains, p.gain(pick))
	}
	return sums(gains)
}

// ahead returns by how much a can be ahead at each edge with all that is known, and nil if that leaves no truth.
func (p pair) ahead(k known) []api.Span {
	all := make([]api.Span, p.picks()+1)
	for edge := range all {
		if edge > 0 {
			all[edge] = plus(all[edge-1], p.gain(edge-1))
		}
		all[edge] = k.narrow(edge, all[edge])
		if all[edge].Low > all[edge].High {
			return nil
		}
	}
	for edge := p.picks() - 1; edge >= 0; edge-- {
		all[edge] = meet(all[edge], plus(all[edge+1], turned(p.gain(edge))))
	}
	return all
}

// truth returns a truth with all that is known, which leaves one.
func (p pair) truth(k known) api.SeamTruth {
	var t api.SeamTruth
	ahead, now := p.ahead(k), 0
	for pick := range p.picks() {
		a, b, was := p[0][pick], p[1][pick], now
		now = meet(ahead[pick+1], plus(api.Span{Low: was, High: was}, p.gain(pick))).Low
		wide := max(a.Low, b.Low+now-was)
		t.A, t.B = append(t.A, wide), append(t.B, wide-(now-was))
	}
	return t
}

// canBe tells whether all picks can be as wide as in a truth, which has a width for each of them.
func (p pair) canBe(t api.SeamTruth) bool {
	for i, l := range [2][]int{t.A, t.B} {
		for pick, width := range l {
			if can := p[i][pick]; !areFrom(can.Low, can.High, width) {
				return false
			}
		}
	}
	return true
}

// run returns by how much a is ahead at each edge in a truth.
func run(t api.SeamTruth) []int {
	all := []int{0}
	for pick := range t.A {
		all = append(all, all[pick]+t.A[pick]-t.B[pick])
	}
	return all
}

// known is the edges at which it is known by how much a is ahead.
type known map[int]int

// at returns what is known with marks.
func at(marks ...int) known {
	k := known{0: 0}
	for _, edge := range marks {
		k[edge] = 0
	}
	return k
}

// narrow returns what is left of a span at an edge; its Low is above its High if nothing is.
func (k known) narrow(edge int, s api.Span) api.Span {
	if ahead, ok := k[edge]; ok {
		return meet(s, api.Span{Low: ahead, High: ahead})
	}
	return s
}

// hold tells whether a is ahead by just so much wherever it is known.
func (k known) hold(ahead []int) bool {
	for edge, is := range ahead {
		if want, ok := k[edge]; ok && is != want {
			return false
		}
	}
	return true
}

func plus(s, t api.Span) api.Span { return api.Span{Low: s.Low + t.Low, High: s.High + t.High} }

func turned(s api.Span) api.Span { return api.Span{Low: -s.High, High: -s.Low} }

func meet(s, t api.Span) api.Span {
	return api.Span{Low: max(s.Low, t.Low), High: min(s.High, t.High)}
}

// apart returns by how much one length can at most be ahead of the other.
func apart(s api.Span) int { return max(s.High, -s.Low) }
