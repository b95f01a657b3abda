package beam_test

import (
	"math/big"
	"math/rand/v2"
	"slices"
	"testing"

	"griffe/api"
	"griffe/beam"
)

// geared returns a take-up with other pairs: the wheels of a list of numbers.
func geared(t api.BeamTake, shop, list []int) api.BeamTake {
	var teeth []int
	for _, wheel := range list {
		teeth = append(teeth, shop[wheel])
	}
	return takeUp(t.Ratchet, t.Step, t.Round, teeth...)
}

// off returns how far a take-up is from a wanted ratio.
func off(t api.BeamTake, want api.Ratio) *big.Rat {
	away := exactly(t)
	away.Sub(away, rat(want.Num, want.Den))
	return away.Abs(away)
}

// lists returns all lists of so many different wheels, in no order that counts.
func lists(wheels, many int) [][]int {
	if many == 0 {
		return [][]int{nil}
	}
	var all [][]int
	for wheel := range wheels {
		for _, rest := range lists(wheels, many-1) {
			if !slices.Contains(rest, wheel) {
				all = append(all, append(slices.Clone(rest), wheel))
			}
		}
	}
	return all
}

// naiveNearest returns the list that is nearest, of all lists.
func naiveNearest(t api.BeamTake, shop []int, want api.Ratio, pairs int) []int {
	var best []int
	for many := 1; many <= pairs; many++ {
		for _, list := range lists(len(shop), 2*many) {
			nearer := off(geared(t, shop, list), want).Cmp(off(geared(t, shop, best), want))
			if nearer < 0 || nearer == 0 && len(list) == len(best) && slices.Compare(list, best) < 0 {
				best = list
			}
		}
	}
	return best
}

// isGeared reports a list and a ratio that do not belong together, or are not wheels of a shop.
func isGeared(t *testing.T, up api.BeamTake, shop, l []int, got api.Ratio, pairs int) {
	t.Helper()
	used := slices.Compact(slices.Sorted(slices.Values(l)))
	if len(l)%2 != 0 || len(l) > 2*pairs || len(used) != len(l) {
		t.Fatal(shop, pairs, l)
	}
	if take, e := beam.Take(geared(up, shop, l)); e != api.OK || take != got {
		t.Fatal(up, shop, l, got, take, e)
	}
}

// anyShop returns so many wheels, often alike ones.
func anyShop(r *rand.Rand, many int) []int {
	var shop []int
	for range many {
		shop = append(shop, []int{upTo(r, 1, 100), 10 * upTo(r, 1, 10)}[r.IntN(2)])
	}
	return shop
}

// P6.3: the examples, and which of equally near ones it is.
func TestNearest(t *testing.T) {
	shop := []int{20, 30, 50, 60}
	unit := takeUp(1, 1, 4)
	for _, c := range []struct {
		t     api.BeamTake
		shop  []int
		want  api.Ratio
		pairs int
		l     []int
		got   api.Ratio
	}{
		{example(), shop, ratio(2100, 1), 1, []int{0, 2}, ratio(2000, 1)},
		{example(), shop, ratio(2100, 1), 2, []int{0, 2}, ratio(2000, 1)},
		{example(), shop, ratio(2100, 1), 0, nil, ratio(5000, 1)},
		{example(), shop, ratio(2800, 1), 1, []int{1, 2}, ratio(3000, 1)},
		{example(), shop, ratio(2600, 1), 1, []int{1, 3}, ratio(2500, 1)},
		{example(), shop, ratio(2700, 1), 2, []int{0, 1, 2, 3}, ratio(25000, 9)},
		// The pairs of the take-up itself play no part; without wheels that are used twice there is no second pair.
		{takeUp(60, 1, 300000, 1, 100, 1, 100), shop, ratio(2100, 1), 1, []int{0, 2}, ratio(2000, 1)},
		{takeUp(60, 1, 300000, 1, 100, 1, 100), nil, ratio(2100, 1), 2, nil, ratio(5000, 1)},
		{example(), []int{20}, ratio(2100, 1), 2, nil, ratio(5000, 1)},
		{example(), []int{20, 50}, ratio(800, 1), 2, []int{0, 1}, ratio(2000, 1)},
		{example(), []int{50, 20}, ratio(800, 1), 2, []int{1, 0}, ratio(2000, 1)},
		{example(), []int{50, 20, 50}, ratio(2000, 1), 2, []int{1, 0}, ratio(2000, 1)},
		// Equally near: from both sides, with fewer pairs, and by smaller numbers.
		{unit, []int{1, 2}, ratio(5, 1), 1, nil, ratio(4, 1)},
		{unit, []int{1, 2, 4, 8}, ratio(10, 2), 2, nil, ratio(4, 1)},
		{unit, []int{2, 1}, ratio(6, 1), 1, nil, ratio(4, 1)},
		{unit, []int{2, 1}, ratio(60, 10), 1, nil, ratio(4, 1)},
		{unit, []int{2, 1}, ratio(61, 10), 1, []int{0, 1}, ratio(8, 1)},
		{unit, []int{2, 1}, ratio(59, 10), 1, nil, ratio(4, 1)},
		{takeUp(1, 1, 12), []int{1, 3, 2}, ratio(5, 1), 1, []int{0, 1}, ratio(4, 1)},
		{takeUp(1, 1, 12), []int{2, 1, 3}, ratio(5, 1), 1, []int{1, 0}, ratio(6, 1)},
		{takeUp(1, 1, 12), []int{1, 2, 3}, ratio(5, 1), 1, []int{0, 1}, ratio(6, 1)},
		{takeUp(1, 1, 12), []int{3, 2, 1}, ratio(5, 1), 1, []int{2, 0}, ratio(4, 1)},
		{takeUp(1, 1, 12), []int{30, 10, 20, 10}, ratio(5, 1), 1, []int{1, 0}, ratio(4, 1)},
		{takeUp(1, 1, 10), []int{20, 10, 20, 10}, ratio(5, 1), 2, []int{1, 0}, ratio(5, 1)},
		{takeUp(1, 1, 10), []int{20, 10, 20, 10}, ratio(40, 1), 2, []int{0, 1, 2, 3}, ratio(40, 1)},
		{takeUp(1, 1, 10), []int{10, 10, 20, 10}, ratio(5, 1), 2, []int{0, 2}, ratio(5, 1)},
		{takeUp(1, 1, 10), []int{10, 10, 20, 10}, ratio(10, 1), 2, nil, ratio(10, 1)},
		// The limits.
		{fastest(), []int{100, 100, 1, 1}, ratio(1, 100), 2, []int{2, 0, 3, 1}, ratio(250, 1)},
		{fastest(), []int{100, 1}, ratio(1000000, 1), 1, []int{1, 0}, ratio(25000, 1)},
		{slowest(), []int{100, 100, 1, 1}, ratio(1000000, 1), 2, []int{0, 2, 1, 3}, ratio(100, 1)},
		{slowest(), []int{1, 1, 1, 1, 1, 1, 100, 100}, ratio(1, 100), 2, nil, ratio(1, 100)},
		{slowest(), []int{99, 97, 98, 96, 95, 94, 93, 100}, ratio(1, 100), 2, nil, ratio(1, 100)},
	} {
		if l, got, e := beam.Nearest(c.t, c.shop, c.want, c.pairs); e != api.OK || !slices.Equal(l, c.l) || got != c.got {
			t.Error(c, l, got, e)
		}
	}
}

// P6.3, P6.11: compared with all lists of wheels.
func TestNearestOfAll(t *testing.T) {
	r := source(4)
	for at, up := range samples(r, 300) {
		pairs, shop := r.IntN(3), anyShop(r, r.IntN(6))
		if at%50 == 49 {
			pairs, shop = 2, anyShop(r, 8)
		}
		want := ratio(upTo(r, 1, api.MaxBeamWant), upTo(r, 1, api.MaxBeamTeeth))
		if r.IntN(2) == 0 {
			want = ratio(1+r.IntN(60), 1+r.IntN(9))
			up = takeUp(1+r.IntN(9), 1+r.IntN(5), 1+r.IntN(60))
		}
		l, got, e := beam.Nearest(up, shop, want, pairs)
		if naive := naiveNearest(up, shop, want, pairs); e != api.OK || !slices.Equal(l, naive) {
			t.Fatal(up, shop, want, pairs, l, e, naive)
		}
		isGeared(t, up, shop, l, got, pairs)
	}
}

// P6.11: with one wheel more, or one pair more, it is not farther away; what some wheels take up is met.
func TestNearestOfMore(t *testing.T) {
	r := source(5)
	for _, up := range samples(r, 200) {
		shop := anyShop(r, 4+r.IntN(4))
		want := ratio(upTo(r, 1, api.MaxBeamWant), upTo(r, 1, api.MaxBeamTeeth))
		for pairs := range 3 {
			away := func(shop []int, pairs int) *big.Rat {
				l, _, e := beam.Nearest(up, shop, want, pairs)
				if e != api.OK {
					t.Fatal(up, shop, want, e)
				}
				return off(geared(up, shop, l), want)
			}
			now, wheel := away(shop, pairs), append(slices.Clone(shop), upTo(r, 1, 100))
			if now.Cmp(away(wheel, pairs)) < 0 || pairs < 2 && now.Cmp(away(shop, pairs+1)) < 0 {
				t.Fatal(up, shop, want, pairs)
			}
			list := r.Perm(len(shop))[:2*pairs]
			take, _ := beam.Take(geared(up, shop, list))
			if take.Num > api.MaxBeamWant || take.Den > api.MaxBeamTeeth {
				continue
			}
			if _, got, e := beam.Nearest(up, shop, take, pairs); e != api.OK || got != take {
				t.Fatal(up, shop, list, take, got, e)
			}
		}
	}
}

// P6.3: the errors in their order.
func TestNearestErrors(t *testing.T) {
	good := ratio(2100, 1)
	for _, c := range []struct {
		shop  []int
		want  api.Ratio
		pairs int
		e     api.Errno
	}{
		{make([]int, 9), ratio(0, 0), 3, api.ErrLong},
		{slices.Repeat([]int{20}, 9), good, 1, api.ErrLong},
		{[]int{0}, good, 3, api.ErrArg}, {[]int{-1}, good, 1, api.ErrArg}, {[]int{101}, good, 0, api.ErrArg}, {[]int{20, 50, far}, good, 1, api.ErrArg}, {[]int{deep, 50}, good, 1, api.ErrArg},
		{nil, ratio(0, 1), 3, api.ErrArg}, {nil, ratio(-1, 1), 1, api.ErrArg}, {nil, ratio(1000001, 1), 1, api.ErrArg}, {nil, ratio(1, 0), -1, api.ErrArg}, {nil, ratio(1, 101), 1, api.ErrArg}, {nil, ratio(-1, -1), 1, api.ErrArg}, {nil, ratio(far, deep), 1, api.ErrArg},
		{[]int{20, 50}, good, 3, api.ErrRange}, {[]int{20, 50}, good, -1, api.ErrRange}, {nil, good, far, api.ErrRange}, {nil, good, deep, api.ErrRange},
	} {
		l, got, e := beam.Nearest(example(), c.shop, c.want, c.pairs)
		if e != c.e {
			t.Error(c, e)
		}
		zero(t, c.e, l, got)
	}
	for _, shop := range [][]int{nil, {}, {1}, {100}, slices.Repeat([]int{100}, 8)} {
		for _, want := range []api.Ratio{ratio(1, 1), ratio(1, 100), ratio(1000000, 1), ratio(1000000, 100)} {
			for pairs := range 3 {
				if _, _, e := beam.Nearest(example(), shop, want, pairs); e != api.OK {
					t.Error(shop, want, pairs, e)
				}
			}
		}
	}
}
