package shade

import (
	"cmp"
	"iter"
	"slices"

	"griffe/api"
)

// store is lots, with a tolerance within which they are alike or not.
type store struct {
	lots      []api.ShadeLot
	tolerance int
}

// spread returns the least and the greatest spread of some lots.
func (s store) spread(some ...int) api.Span {
	lows, highs := s.ends(some...)
	return api.Span{Low: max(0, lows.High-highs.Low), High: highs.High - lows.Low}
}

// ends returns from where to where the shades of some lots begin, and end.
func (s store) ends(some ...int) (lows, highs api.Span) {
	first := s.lots[some[0]].Shade
	lows, highs = api.Span{Low: first.Low, High: first.Low}, api.Span{Low: first.High, High: first.High}
	for _, n := range some[1:] {
		shade := s.lots[n].Shade
		lows = api.Span{Low: min(lows.Low, shade.Low), High: max(lows.High, shade.Low)}
		highs = api.Span{Low: min(highs.Low, shade.High), High: max(highs.High, shade.High)}
	}
	return lows, highs
}

// alike tells whether some lots are alike.
func (s store) alike(some ...int) bool {
	colour := s.lots[some[0]].Colour
	isOther := func(n int) bool { return s.lots[n].Colour != colour }
	return !slices.ContainsFunc(some, isOther) && s.spread(some...).High <= s.tolerance
}

// cloths returns the fewest cloths into which all lots can go. The first lots of any two of them are not alike, which shows that there can be no fewer: a lot begins a cloth only if it is not alike with the first lot of any cloth, and as these are gone through from the lowest shade on, a lot that is alike with the first lot of a cloth is so with all others in it.
func (s store) cloths() [][]int {
	var cloths [][]int
	for _, n := range s.fromLowest() {
		isFor := func(cloth []int) bool { return s.alike(cloth[0], n) }
		if at := slices.IndexFunc(cloths, isFor); at >= 0 {
			cloths[at] = append(cloths[at], n)
		} else {
			cloths = append(cloths, []int{n})
		}
	}
	return cloths
}

// fromLowest returns the numbers of all lots in the order in which their shades begin.
func (s store) fromLowest() []int {
	var numbers []int
	for n := range s.lots {
		numbers = append(numbers, n)
	}
	slices.SortStableFunc(numbers, func(a, b int) int { return cmp.Compare(s.lots[a].Shade.Low, s.lots[b].Shade.Low) })
	return numbers
}

// fill returns the smallest list of the fewest lots that are alike, of a colour, and have enough.
func (s store) fill(need api.ShadeNeed) (fewest []int, ok bool) {
	isLess := func(list []int) bool {
		return !ok || cmp.Or(cmp.Compare(len(list), len(fewest)), slices.Compare(list, fewest)) < 0
	}
	for list := range choices(s.ofColour(need.Colour)) {
		if s.grams(list...) >= need.Grams && s.alike(list...) && isLess(list) {
			fewest, ok = list, true
		}
	}
	return fewest, ok
}

// ofColour returns the numbers of all lots of a colour.
func (s store) ofColour(colour int) []int {
	var numbers []int
	for n, lot := range s.lots {
		if lot.Colour == colour {
			numbers = append(numbers, n)
		}
	}
	return numbers
}

// grams returns how many grams some lots have together.
func (s store) grams(some ...int) int {
	grams := 0
	for _, n := range some {
		grams += s.lots[n].Grams
	}
	return grams
}

// choices yields each list of one or more of some numbers, in their order.
func choices(numbers []int) iter.Seq[[]int] {
	return func(yield func([]int) bool) {
		for set := 1; set < 1<<len(numbers); set++ {
			var list []int
			for at, n := range numbers {
				if set>>at&1 == 1 {
					list = append(list, n)
				}
			}
			if !yield(list) {
				return
			}
		}
	}
}
