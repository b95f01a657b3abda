package shade_test

import (
	"reflect"
	"slices"
	"testing"

	"griffe/api"
	"griffe/shade"
)

// threads yields the truths of lots that have two threads each: the shades of all their threads.
func threads(l []api.ShadeLot, shades []int, yield func(shades []int)) {
	if len(shades) == 2*len(l) {
		yield(shades)
		return
	}
	of := l[len(shades)/2].Shade
	for shade := of.Low; shade <= of.High; shade++ {
		threads(l, append(shades, shade), yield)
	}
}

// naiveSpread returns the least and the greatest spread of lots over all truths.
func naiveSpread(l []api.ShadeLot) api.Span {
	spread := api.Span{Low: far}
	threads(l, nil, func(shades []int) {
		apart := slices.Max(shades) - slices.Min(shades)
		spread = api.Span{Low: min(spread.Low, apart), High: max(spread.High, apart)}
	})
	return spread
}

// areAlike tells whether some lots are alike: whether all shades of any two of them are near enough.
func areAlike(l []api.ShadeLot, tolerance int, some ...int) bool {
	for _, one := range some {
		for _, other := range some {
			a, b := l[one], l[other]
			for shade := a.Shade.Low; shade <= a.Shade.High; shade++ {
				if a.Colour != b.Colour || shade-b.Shade.Low > tolerance || b.Shade.High-shade > tolerance {
					return false
				}
			}
		}
	}
	return true
}

// picked returns all lists of the numbers below n, smaller lists first among those of one length.
func picked(n int) [][]int {
	lists := [][]int{nil}
	for at := 0; at < len(lists); at++ {
		from := 0
		if list := lists[at]; len(list) > 0 {
			from = list[len(list)-1] + 1
		}
		for ; from < n; from++ {
			lists = append(lists, append(slices.Clone(lists[at]), from))
		}
	}
	return lists
}

// fewestCloths returns into how few cloths all lots go, by all ways to lay them into cloths, one after another.
func fewestCloths(l []api.ShadeLot, tolerance int, cloths [][]int, next int) int {
	if next == len(l) {
		return len(cloths)
	}
	fewest := fewestCloths(l, tolerance, append(slices.Clone(cloths), []int{next}), next+1)
	for at, cloth := range cloths {
		if with := append(slices.Clone(cloth), next); areAlike(l, tolerance, with...) {
			other := slices.Clone(cloths)
			other[at] = with
			fewest = min(fewest, fewestCloths(l, tolerance, other, next+1))
		}
	}
	return fewest
}

// mostApart returns how many lots there are at most of which no two are alike.
func mostApart(l []api.ShadeLot, tolerance int) int {
	most := 0
	for _, list := range picked(len(l)) {
		if areApart(l, tolerance, list) {
			most = max(most, len(list))
		}
	}
	return most
}

func areApart(l []api.ShadeLot, tolerance int, list []int) bool {
	for at, one := range list {
		for _, other := range list[:at] {
			if areAlike(l, tolerance, one, other) {
				return false
			}
		}
	}
	return true
}

func gramsOf(l []api.ShadeLot, list []int) int {
	grams := 0
	for _, n := range list {
		grams += l[n].Grams
	}
	return grams
}

// naiveFill returns the first of all lists that fills a need.
func naiveFill(l []api.ShadeLot, tolerance int, need api.ShadeNeed) []int {
	for _, list := range picked(len(l)) {
		if gramsOf(l, list) >= need.Grams && l[list[0]].Colour == need.Colour && areAlike(l, tolerance, list...) {
			return list
		}
	}
	return nil
}

// P9.2: spreads, and their errors in their order.
func TestSpread(t *testing.T) {
	l := append(example(), lots(2, 0, 1000, 1, 3, 7, 7, 1, 3, 5, 9, 1)...)
	for _, c := range []struct {
		some      []int
		low, high int
		e         api.Errno
	}{
		{[]int{0, 1}, 0, 12, api.OK},
		{[]int{1, 0}, 0, 12, api.OK},
		{[]int{0, 3}, 10, 30, api.OK},
		{[]int{3, 0}, 10, 30, api.OK},
		{[]int{0}, 0, 10, api.OK},
		{[]int{5}, 0, 0, api.OK},
		{[]int{5, 6}, 0, 4, api.OK},
		{[]int{1, 3}, 8, 25, api.OK},
		{[]int{0, 2}, 0, 25, api.OK},
		{[]int{0, 1, 2, 3}, 10, 30, api.OK},
		{[]int{2, 0, 3, 1}, 10, 30, api.OK},
		{[]int{0, 5}, 93, 103, api.OK},
		{[]int{6, 3, 4}, 111, 1000, api.OK},
		{[]int{0, 1, 2, 3, 4, 5, 6}, 113, 1000, api.OK},
		{nil, 0, 0, api.ErrNone},
		{[]int{7}, 0, 0, api.ErrNone},
		{[]int{-1, 0}, 0, 0, api.ErrNone},
		{[]int{0, 0, 7}, 0, 0, api.ErrNone},
		{[]int{far, deep}, 0, 0, api.ErrNone},
		{[]int{0, 0}, 0, 0, api.ErrTwice},
		{[]int{2, 0, 1, 2}, 0, 0, api.ErrTwice},
		{make([]int, 1000), 0, 0, api.ErrTwice},
	} {
		if spread, e := shade.Spread(l, c.some); spread != (api.Span{Low: c.low, High: c.high}) || e != c.e {
			t.Error(c.some, spread, e)
		}
	}
	if _, e := shade.Spread(nil, []int{0}); e != api.ErrNone {
		t.Error(e)
	}
}

// P9.2: spreads are those of all truths, whatever the colours.
func TestSpreadOfTruths(t *testing.T) {
	r := source(1)
	for many := 0; many < 400; many++ {
		l := anyLots(r, upTo(r, 1, 3), 3, 8, 4)
		some := r.Perm(len(l))
		spread, e := shade.Spread(l, some)
		if e != api.OK || spread != naiveSpread(l) {
			t.Fatal(l, spread, e)
		}
		one, e := shade.Spread(l, some[:1])
		if e != api.OK || one != naiveSpread(l[some[0]:some[0]+1]) {
			t.Fatal(l, one, e)
		}
	}
}

// P9.3, P9.4: cloths and lots apart of which there is only one way, and lots that are too uneven.
func TestCloths(t *testing.T) {
	two := append(example(), lots(2, 100, 110, 5)...)
	for _, c := range []struct {
		lots      []api.ShadeLot
		tolerance int
		cloths    [][]int
		apart     []int
		e         api.Errno
	}{
		{example(), 17, [][]int{{0, 1}, {2}, {3}}, nil, api.OK},
		{example(), 16, nil, nil, api.ErrState},
		{example(), 0, nil, nil, api.ErrState},
		{example(), 30, [][]int{{0, 1, 2, 3}}, nil, api.OK},
		{example()[:2], 12, [][]int{{0, 1}}, nil, api.OK},
		{example()[:2], 11, [][]int{{0}, {1}}, []int{0, 1}, api.OK},
		{example()[:2], 10, [][]int{{0}, {1}}, []int{0, 1}, api.OK},
		{example()[:2], 9, nil, nil, api.ErrState},
		{two, 30, [][]int{{0, 1, 2, 3}, {4}}, nil, api.OK},
		{lots(1, 0, 9, 1, 2, 0, 9, 1, 1, 0, 9, 1), 9, [][]int{{0, 2}, {1}}, nil, api.OK},
		{lots(2, 5, 9, 1, 1, 0, 4, 1, 2, 5, 5, 1), 1000, [][]int{{0, 2}, {1}}, nil, api.OK},
		{lots(1, 9, 9, 1, 1, 5, 5, 1, 1, 0, 0, 1), 3, [][]int{{0}, {1}, {2}}, []int{0, 1, 2}, api.OK},
		{lots(1, 9, 9, 1, 1, 0, 0, 1, 1, 9, 9, 1, 1, 0, 0, 1), 0, [][]int{{0, 2}, {1, 3}}, nil, api.OK},
		{full(), 1000, [][]int{{0, 1, 2, 3, 4, 5, 6, 7, 8, 9, 10, 11}}, nil, api.OK},
		{full(), 999, nil, nil, api.ErrState},
		{nil, 0, nil, nil, api.OK},
	} {
		cloths, e := shade.Cloths(c.lots, c.tolerance)
		if len(cloths) != len(c.cloths) || len(cloths) > 0 && !reflect.DeepEqual(cloths, c.cloths) || e != c.e {
			t.Error(c.lots, c.tolerance, cloths, e)
		}
		apart, e := shade.Apart(c.lots, c.tolerance)
		if len(apart) != len(c.cloths) || c.apart != nil && !slices.Equal(apart, c.apart) || e != c.e {
			t.Error(c.lots, c.tolerance, apart, e)
		}
	}
}

// P9.3, P9.4: the cloths of the examples, of which there are several ways.
func TestExampleCloths(t *testing.T) {
	for _, c := range []struct {
		tolerance int
		ways      [][][]int
		apart     []int
	}{
		{20, [][][]int{{{0, 1}, {2}, {3}}, {{0}, {1, 2}, {3}}}, []int{0, 2, 3}},
		{25, [][][]int{{{0, 1, 2}, {3}}, {{0, 1}, {2, 3}}, {{0, 2}, {1, 3}}, {{0}, {1, 2, 3}}}, []int{0, 3}},
	} {
		cloths, e := shade.Cloths(example(), c.tolerance)
		if isWay := func(way [][]int) bool { return reflect.DeepEqual(cloths, way) }; !slices.ContainsFunc(c.ways, isWay) || e != api.OK {
			t.Error(c.tolerance, cloths, e)
		}
		if apart, e := shade.Apart(example(), c.tolerance); !slices.Equal(apart, c.apart) || e != api.OK {
			t.Error(c.tolerance, apart, e)
		}
	}
}

// checkCloths reports cloths that are not a way to lay all lots into alike ones, and lots that are not apart.
func checkCloths(t *testing.T, l []api.ShadeLot, tolerance int) (cloths [][]int) {
	t.Helper()
	cloths, e := shade.Cloths(l, tolerance)
	apart, f := shade.Apart(l, tolerance)
	if e != f {
		t.Fatal(l, tolerance, e, f)
	}
	if e != api.OK {
		zero(t, e, cloths, apart)
		return nil
	}
	all := slices.Concat(cloths...)
	slices.Sort(all)
	isFirst := func(a, b []int) int { return a[0] - b[0] }
	if len(all) != len(l) || len(slices.Compact(all)) != len(l) || !slices.IsSortedFunc(cloths, isFirst) {
		t.Fatal(l, tolerance, cloths)
	}
	for _, cloth := range cloths {
		spread, e := shade.Spread(l, cloth)
		if !slices.IsSorted(cloth) || !areAlike(l, tolerance, cloth...) || e != api.OK || spread.High > tolerance {
			t.Fatal(l, tolerance, cloths, spread, e)
		}
	}
	if len(apart) != len(cloths) || !slices.IsSorted(apart) || len(slices.Compact(slices.Clone(apart))) != len(apart) || !areApart(l, tolerance, apart) {
		t.Fatal(l, tolerance, cloths, apart)
	}
	return cloths
}

// P9.3, P9.4, P9.11: there are no fewer cloths, and no more lots of which no two are alike.
func TestClothsAreFewest(t *testing.T) {
	r := source(2)
	var seen [8]int
	for many := 0; many < 1500; many++ {
		l, tolerance := anyLots(r, upTo(r, 0, 7), upTo(r, 1, 3), 40, 5), upTo(r, 3, 10)
		if _, e := shade.Cloths(l, tolerance); e != api.OK {
			if uneven := slices.ContainsFunc(l, func(lot api.ShadeLot) bool { return lot.Shade.High-lot.Shade.Low > tolerance }); e != api.ErrState || !uneven {
				t.Fatal(l, tolerance, e)
			}
			continue
		}
		cloths := checkCloths(t, l, tolerance)
		if fewest, most := fewestCloths(l, tolerance, nil, 0), mostApart(l, tolerance); len(cloths) != fewest || fewest != most {
			t.Fatal(l, tolerance, cloths, fewest, most)
		}
		seen[len(cloths)]++
	}
	for count, samples := range seen {
		if samples < 2 {
			t.Error("too few samples of", count, "cloths:", seen)
		}
	}
}

// P9.3, P9.4, P9.11: as many cloths as lots apart, with as many lots as there can be.
func TestManyCloths(t *testing.T) {
	r := source(3)
	for many := 0; many < 500; many++ {
		checkCloths(t, anyLots(r, 12, upTo(r, 1, 4), 1000, 100), upTo(r, 100, 400))
	}
}

// P9.5, P9.12: orders that are filled, and the errors.
func TestFill(t *testing.T) {
	uneven := lots(1, 0, 50, 900, 1, 20, 30, 300, 1, 25, 30, 300, 2, 20, 30, 1000)
	for _, c := range []struct {
		lots      []api.ShadeLot
		tolerance int
		need      api.ShadeNeed
		list      []int
		e         api.Errno
	}{
		{example(), 20, need(1, 800), []int{0, 1}, api.OK},
		{example(), 20, need(1, 700), []int{0, 1}, api.OK},
		{example(), 20, need(1, 601), []int{0, 1}, api.OK},
		{example(), 20, need(1, 600), []int{3}, api.OK},
		{example(), 20, need(1, 501), []int{3}, api.OK},
		{example(), 20, need(1, 500), []int{0}, api.OK},
		{example(), 20, need(1, 1), []int{0}, api.OK},
		{example(), 20, need(1, 801), nil, api.ErrNone},
		{example(), 20, need(1, 900), nil, api.ErrNone},
		{example(), 25, need(1, 900), []int{0, 2}, api.OK},
		{example(), 25, need(1, 901), []int{2, 3}, api.OK},
		{example(), 25, need(1, 1001), []int{0, 1, 2}, api.OK},
		{example(), 25, need(1, 1201), []int{1, 2, 3}, api.OK},
		{example(), 25, need(1, 1301), nil, api.ErrNone},
		{example(), 30, need(1, 901), []int{0, 3}, api.OK},
		{example(), 30, need(1, 1800), []int{0, 1, 2, 3}, api.OK},
		{example(), 30, need(1, 1500), []int{0, 2, 3}, api.OK},
		{example(), 30, need(1, 1801), nil, api.ErrNone},
		{example(), 9, need(1, 300), []int{1}, api.OK},
		{example(), 6, need(1, 1), nil, api.ErrNone},
		{example(), 20, need(0, 1), nil, api.ErrNone},
		{example(), 20, need(9, 12000000), nil, api.ErrNone},
		{uneven, 20, need(1, 600), []int{1, 2}, api.OK},
		{uneven, 20, need(1, 601), nil, api.ErrNone},
		{uneven, 50, need(1, 601), []int{0}, api.OK},
		{uneven, 20, need(2, 1000), []int{3}, api.OK},
		{uneven, 1000, need(2, 1001), nil, api.ErrNone},
		{full(), 1000, need(9, 12000000), []int{0, 1, 2, 3, 4, 5, 6, 7, 8, 9, 10, 11}, api.OK},
		{full(), 1000, need(9, 11000000), []int{0, 1, 2, 3, 4, 5, 6, 7, 8, 9, 10}, api.OK},
		{full(), 999, need(9, 1), nil, api.ErrNone},
		{full(), 1000, need(9, 12000001), nil, api.ErrArg},
		{nil, 20, need(1, 1), nil, api.ErrNone},
		{nil, 20, need(1, 0), nil, api.ErrArg},
		{example(), 20, need(1, -1), nil, api.ErrArg},
		{example(), 20, need(-1, 1), nil, api.ErrArg},
		{example(), 20, need(10, 1), nil, api.ErrArg},
		{example(), 20, need(far, 1), nil, api.ErrArg},
		{example(), 20, need(1, far), nil, api.ErrArg},
	} {
		if list, e := shade.Fill(c.lots, c.tolerance, c.need); !slices.Equal(list, c.list) || e != c.e {
			t.Error(c.lots, c.tolerance, c.need, list, e)
		}
	}
}

// P9.5, P9.12: the smallest of the shortest lists that fill a need.
func TestFillIsFewest(t *testing.T) {
	r := source(4)
	var seen [6]int
	for many := 0; many < 3000; many++ {
		l, tolerance := anyLots(r, upTo(r, 0, 8), upTo(r, 1, 2), 12, 6), upTo(r, 4, 13)
		wanted := need(0, upTo(r, 1, 40))
		list, e := shade.Fill(l, tolerance, wanted)
		want := naiveFill(l, tolerance, wanted)
		if !slices.Equal(list, want) || (e == api.OK) != (want != nil) || e != api.OK && e != api.ErrNone {
			t.Fatal(l, tolerance, wanted, list, e, want)
		}
		seen[min(5, len(list))]++
	}
	if slices.Min(seen[:]) < 20 {
		t.Error("too few samples:", seen)
	}
}

// P9.6: colourways, and the errors need by need, with their numbers.
func TestWay(t *testing.T) {
	l := append(example(), lots(2, 0, 0, 7, 3, 0, 9, 7, 2, 1, 1, 7)...)
	for _, c := range []struct {
		needs []api.ShadeNeed
		lists [][]int
		at    int
		e     api.Errno
	}{
		{nil, nil, 0, api.OK},
		{needs(1, 800), [][]int{{0, 1}}, 0, api.OK},
		{needs(2, 14, 1, 600, 3, 1), [][]int{{4, 6}, {3}, {5}}, 0, api.OK},
		{needs(2, 14, 1, 600, 2, 1), nil, 2, api.ErrTwice},
		{needs(2, 14, 1, 600, 1, 900), nil, 2, api.ErrTwice},
		{needs(2, 14, 1, 600, 1, 0), nil, 2, api.ErrArg},
		{needs(2, 14, 1, 900, 1, 0), nil, 1, api.ErrNone},
		{needs(2, 15, 2, 15), nil, 0, api.ErrNone},
		{needs(0, 1), nil, 0, api.ErrNone},
		{needs(3, 7, 10, 1), nil, 1, api.ErrArg},
		{needs(3, 7, -1, 1), nil, 1, api.ErrArg},
		{needs(3, 7, 1, 12000001), nil, 1, api.ErrArg},
		{needs(3, 7, 2, 7, 1, 1, 0, 1), nil, 3, api.ErrNone},
		{make([]api.ShadeNeed, 10), nil, 0, api.ErrArg},
		{make([]api.ShadeNeed, 11), nil, 0, api.ErrLong},
		{slices.Repeat(needs(1, 1), 11), nil, 0, api.ErrLong},
		{slices.Repeat(needs(1, 1), 10), nil, 1, api.ErrTwice},
	} {
		lists, at, e := shade.Way(l, 20, c.needs)
		if len(lists) != len(c.lists) || len(lists) > 0 && !reflect.DeepEqual(lists, c.lists) || at != c.at || e != c.e {
			t.Error(c.needs, lists, at, e)
		}
	}
	var ten []api.ShadeLot
	var wanted []api.ShadeNeed
	for colour := range 10 {
		ten, wanted = append(ten, lots(colour, 5, 5, 9)...), append(wanted, need(colour, 9))
	}
	if lists, at, e := shade.Way(ten, 0, wanted); len(lists) != 10 || !slices.Equal(lists[9], []int{9}) || at != 0 || e != api.OK {
		t.Error(lists, at, e)
	}
}

// P9.6: for each need what Fill returns for it.
func TestWayIsFills(t *testing.T) {
	r := source(5)
	for many := 0; many < 500; many++ {
		l, tolerance := anyLots(r, upTo(r, 3, 10), 3, 12, 3), upTo(r, 3, 12)
		var wanted []api.ShadeNeed
		for _, colour := range r.Perm(3) {
			wanted = append(wanted, need(colour, upTo(r, 1, 12)))
		}
		lists, at, e := shade.Way(l, tolerance, wanted)
		for n, one := range wanted {
			list, f := shade.Fill(l, tolerance, one)
			if f != api.OK {
				if at != n || e != f || len(lists) != 0 {
					t.Fatal(l, tolerance, wanted, lists, at, e)
				}
				break
			}
			if e == api.OK && (len(lists) != 3 || !slices.Equal(lists[n], list)) {
				t.Fatal(l, tolerance, wanted, lists, at, e)
			}
		}
	}
}

// P9.14: with a greater tolerance or fewer lots there are no more cloths, and with a lot more Fill needs no more.
func TestMoreLots(t *testing.T) {
	r := source(6)
	for many := 0; many < 1000; many++ {
		l, tolerance := anyLots(r, upTo(r, 1, 12), 2, 30, 6), upTo(r, 6, 20)
		cloths, e := shade.Cloths(l, tolerance)
		wider, f := shade.Cloths(l, tolerance+upTo(r, 1, 5))
		fewer, g := shade.Cloths(l[1:], tolerance)
		if e != api.OK || f != api.OK || g != api.OK || len(wider) > len(cloths) || len(fewer) > len(cloths) {
			t.Fatal(l, tolerance, cloths, wider, fewer, e, f, g)
		}
		wanted := need(0, upTo(r, 1, 25))
		if list, e := shade.Fill(l[1:], tolerance, wanted); e == api.OK {
			if with, e := shade.Fill(l, tolerance, wanted); e != api.OK || len(with) > len(list) {
				t.Fatal(l, tolerance, wanted, list, with, e)
			}
		}
	}
}
