package seam_test

import (
	"math/rand/v2"
	"slices"
	"testing"

	"griffe/api"
	"griffe/seam"
)

// cuts returns lengths that are to be cut out: Begin, Picks, and so on.
func cuts(numbers ...int) []api.SeamCut {
	var all []api.SeamCut
	for cut := range slices.Chunk(numbers, 2) {
		all = append(all, api.SeamCut{Begin: cut[0], Picks: cut[1]})
	}
	return all
}

// anyCuts returns so many lengths of up to so many picks.
func anyCuts(r *rand.Rand, repeat, most, many int) []api.SeamCut {
	var all []api.SeamCut
	for range many {
		all = append(all, api.SeamCut{Begin: upTo(r, 0, repeat-1), Picks: upTo(r, 1, most)})
	}
	return all
}

// anyBad returns some picks up to a last one, in their order.
func anyBad(r *rand.Rand, last, many int) []int {
	var bad []int
	for range many {
		bad = append(bad, upTo(r, 0, last))
	}
	slices.Sort(bad)
	return slices.Compact(bad)
}

// fits tells whether a length can be cut out of picks that are not bad, from a pick on.
func fits(repeat int, bad []int, c api.SeamCut, start int) bool {
	if start%repeat != c.Begin {
		return false
	}
	for pick := start; pick < start+c.Picks; pick++ {
		if slices.Contains(bad, pick) {
			return false
		}
	}
	return true
}

// shortest returns the shortest piece of all orders of lengths that are cut as early as can be after the one before, if it is below best.
func shortest(repeat int, bad []int, left []api.SeamCut, from, best int) int {
	if len(left) == 0 {
		return min(best, from)
	}
	for i, c := range left {
		start := from
		for !fits(repeat, bad, c, start) {
			start++
		}
		if start+c.Picks < best {
			best = shortest(repeat, bad, slices.Delete(slices.Clone(left), i, i+1), start+c.Picks, best)
		}
	}
	return best
}

// checkCut reports lengths that do not begin where they must, that overlap, or that have a bad pick; it returns what is needed.
func checkCut(t *testing.T, repeat int, bad []int, all []api.SeamCut) int {
	t.Helper()
	starts, need, e := seam.Cut(repeat, bad, all)
	if e != api.OK || len(starts) != len(all) {
		t.Fatal(repeat, bad, all, starts, need, e)
	}
	last := 0
	for i, c := range all {
		last = max(last, starts[i]+c.Picks)
		if starts[i] < 0 || !fits(repeat, bad, c, starts[i]) {
			t.Fatal(repeat, bad, all, starts, need)
		}
		for j, other := range all[:i] {
			if starts[i] < starts[j]+other.Picks && starts[j] < starts[i]+c.Picks {
				t.Fatal(repeat, bad, all, starts, need)
			}
		}
	}
	if need != last {
		t.Fatal(repeat, bad, all, starts, need)
	}
	return need
}

// P7.8: the examples, and pieces with one way to be cut.
func TestCut(t *testing.T) {
	full := make([]int, 40)
	for i := range full {
		full[i] = i
	}
	for name, c := range map[string]struct {
		repeat int
		bad    []int
		cuts   []api.SeamCut
		starts []int
		need   int
	}{
		"the example":            {10, nil, cuts(0, 7, 8, 4), []int{0, 8}, 12},
		"a bad pick":             {10, []int{9}, cuts(0, 7, 8, 4), []int{0, 18}, 22},
		"no length":              {10, []int{9}, nil, nil, 0},
		"one length":             {10, nil, cuts(3, 4), []int{3}, 7},
		"bad before it":          {10, []int{2}, cuts(3, 4), []int{3}, 7},
		"bad at its first pick":  {10, []int{3}, cuts(3, 4), []int{13}, 17},
		"bad at its last pick":   {10, []int{6}, cuts(3, 4), []int{13}, 17},
		"bad after it":           {10, []int{7}, cuts(3, 4), []int{3}, 7},
		"bad twice":              {10, []int{3, 16}, cuts(3, 4), []int{23}, 27},
		"two bad in one":         {10, []int{4, 5}, cuts(3, 4), []int{13}, 17},
		"longer than the repeat": {3, nil, cuts(2, 8, 1, 2), []int{2, 10}, 12},
		"the second one first":   {10, nil, cuts(5, 5, 0, 5), []int{5, 0}, 10},
		"a repeat of one pick":   {1, []int{5}, cuts(0, 5), []int{0}, 5},
		"full of bad picks":      {1, full, cuts(0, 1), []int{40}, 41},
		"the last bad pick":      {1, []int{100000}, cuts(0, 200), []int{0}, 200},
		"the last Begin":         {100, nil, cuts(99, 200), []int{99}, 299},
		"the first of the piece": {100, []int{0}, cuts(0, 1), []int{100}, 101},
	} {
		starts, need, e := seam.Cut(c.repeat, c.bad, c.cuts)
		if e != api.OK || !slices.Equal(starts, c.starts) || need != c.need {
			t.Error(name, starts, need, e)
		}
	}
	if need := checkCut(t, 100, nil, slices.Repeat(cuts(0, 200), 8)); need != 1600 {
		t.Error(need)
	}
	if need := checkCut(t, 100, nil, slices.Repeat(cuts(99, 199), 8)); need != 99+7*200+199 {
		t.Error(need)
	}
}

// P7.8, P7.14: no order of up to eight lengths needs a shorter piece.
func TestCutOfAllOrders(t *testing.T) {
	r := source(31)
	later := 0
	for i := range 600 {
		many := r.IntN(7)
		if i%100 == 0 {
			many = 8
		}
		repeat := upTo(r, 1, 20)
		all := anyCuts(r, repeat, upTo(r, 1, 25), many)
		bad := anyBad(r, upTo(r, 0, 150), r.IntN(12))
		need := checkCut(t, repeat, bad, all)
		if want := shortest(repeat, bad, all, 0, far); need != want {
			t.Fatal(repeat, bad, all, need, want)
		}
		if _, without, _ := seam.Cut(repeat, nil, all); without < need {
			later++
		}
	}
	if later < 150 {
		t.Error("too few samples in which bad picks matter", later)
	}
}

// P7.8: wherever up to three lengths start, the piece is not shorter.
func TestCutOfAllStarts(t *testing.T) {
	r := source(32)
	for range 150 {
		repeat := 1 + r.IntN(5)
		all := anyCuts(r, repeat, 5, 1+r.IntN(3))
		bad := anyBad(r, 15, r.IntN(4))
		need := checkCut(t, repeat, bad, all)
		var place func(left []api.SeamCut, taken []int) bool
		place = func(left []api.SeamCut, taken []int) bool {
			if len(left) == 0 {
				return true
			}
			for start := 0; start+left[0].Picks < need; start++ {
				if !fits(repeat, taken, left[0], start) {
					continue
				}
				more := slices.Clone(taken)
				for pick := range left[0].Picks {
					more = append(more, start+pick)
				}
				if place(left[1:], more) {
					return true
				}
			}
			return false
		}
		if place(all, bad) {
			t.Fatal(repeat, bad, all, need)
		}
	}
}

// P7.14: with one bad pick more, or one length more, the piece is not shorter.
func TestMoreOfCuts(t *testing.T) {
	r := source(33)
	longer := 0
	for range 500 {
		repeat := upTo(r, 1, api.MaxSeamRepeat)
		all := anyCuts(r, repeat, upTo(r, 1, api.MaxSeamPicks), r.IntN(api.MaxSeamCuts))
		bad := anyBad(r, upTo(r, 0, 1500), r.IntN(api.MaxSeamBad))
		need := checkCut(t, repeat, bad, all)
		more := slices.Insert(slices.Clone(all), r.IntN(len(all)+1), anyCuts(r, repeat, 50, 1)[0])
		if n := checkCut(t, repeat, bad, more); n < need {
			t.Fatal(repeat, bad, more, n, need)
		}
		worse := slices.Compact(slices.Sorted(slices.Values(append([]int{upTo(r, 0, 1500)}, bad...))))
		n := checkCut(t, repeat, worse, all)
		if n < need {
			t.Fatal(repeat, worse, all, n, need)
		}
		if n > need {
			longer++
		}
	}
	if longer < 20 {
		t.Error("too few samples in which one bad pick matters", longer)
	}
}

// P7.8: the errors, in their order.
func TestCutErrors(t *testing.T) {
	ok, many := cuts(0, 7, 8, 4), slices.Repeat(cuts(0, 1), 9)
	for name, c := range map[string]struct {
		repeat int
		bad    []int
		cuts   []api.SeamCut
		e      api.Errno
	}{
		"no repeat":                {0, make([]int, 41), many, api.ErrRange},
		"a repeat below":           {-1, nil, ok, api.ErrRange},
		"a large repeat":           {101, nil, ok, api.ErrRange},
		"far":                      {far, nil, ok, api.ErrRange},
		"deep":                     {deep, nil, ok, api.ErrRange},
		"41 bad picks":             {10, make([]int, 41), ok, api.ErrLong},
		"41 worse ones":            {10, slices.Repeat([]int{-1}, 41), cuts(0, 0), api.ErrLong},
		"nine lengths":             {10, nil, many, api.ErrLong},
		"nine worse ones":          {10, []int{-1}, slices.Repeat(cuts(-1, 0), 9), api.ErrLong},
		"a bad pick below":         {10, []int{-1}, ok, api.ErrArg},
		"a bad pick above":         {10, []int{5, 100001}, ok, api.ErrArg},
		"far bad picks":            {10, []int{5, 5, far}, ok, api.ErrArg},
		"deep bad picks":           {10, []int{5, deep}, ok, api.ErrArg},
		"bad picks twice, and far": {10, []int{5, 5}, cuts(0, 201), api.ErrArg},
		"no picks":                 {10, nil, cuts(0, 7, 8, 0), api.ErrArg},
		"picks below":              {10, nil, cuts(0, -7), api.ErrArg},
		"201 picks":                {10, nil, cuts(0, 201), api.ErrArg},
		"a Begin below":            {10, nil, cuts(0, 7, -1, 7), api.ErrArg},
		"a Begin above":            {10, nil, cuts(10, 7), api.ErrArg},
		"a far Begin":              {100, nil, cuts(far, far), api.ErrArg},
		"a deep Begin":             {100, nil, cuts(deep, deep), api.ErrArg},
		"bad picks twice":          {10, []int{3, 5, 5}, ok, api.ErrTwice},
		"bad picks turned over":    {10, []int{5, 3}, ok, api.ErrTwice},
		"bad picks, no length":     {10, []int{0, 0}, nil, api.ErrTwice},
	} {
		starts, need, e := seam.Cut(c.repeat, c.bad, c.cuts)
		if e != c.e {
			t.Error(name, starts, need, e)
		}
		zero(t, e, starts, need)
	}
	bad := anyBad(source(34), 100000, 200)[:40]
	if need := checkCut(t, 100, bad, slices.Repeat(cuts(99, 200), 8)); need < 99+7*200+200 {
		t.Error(need)
	}
}

// naivePieces returns the fewest pieces, by all ways to share out the lengths.
func naivePieces(repeat, picks int, left []api.SeamCut, pieces [][]api.SeamCut) int {
	if len(left) == 0 {
		return len(pieces)
	}
	fewest := naivePieces(repeat, picks, left[1:], append(slices.Clone(pieces), left[:1]))
	for i, piece := range pieces {
		piece = append(slices.Clone(piece), left[0])
		if shortest(repeat, nil, piece, 0, far) <= picks {
			more := slices.Clone(pieces)
			more[i] = piece
			fewest = min(fewest, naivePieces(repeat, picks, left[1:], more))
		}
	}
	return fewest
}

// P7.9: the examples, and pieces at their limits.
func TestPieces(t *testing.T) {
	for name, c := range map[string]struct {
		repeat, picks int
		cuts          []api.SeamCut
		n             int
		e             api.Errno
	}{
		"12":                       {10, 12, cuts(0, 7, 8, 4), 1, api.OK},
		"11":                       {10, 11, cuts(0, 7, 8, 4), 0, api.ErrState},
		"no length":                {10, 1, nil, 0, api.OK},
		"one length":               {10, 8, cuts(1, 7), 1, api.OK},
		"one that does not fit":    {10, 7, cuts(1, 7), 0, api.ErrState},
		"one each":                 {10, 12, cuts(0, 7, 1, 7, 8, 4), 2, api.OK},
		"all of them at 0":         {10, 10, cuts(0, 7, 0, 7, 0, 7), 3, api.OK},
		"two in one":               {10, 19, cuts(0, 7, 0, 7, 0, 9), 2, api.OK},
		"two in one, just":         {10, 17, cuts(0, 7, 0, 7, 0, 9), 2, api.OK},
		"none beside another":      {10, 16, cuts(0, 7, 0, 7, 0, 9), 3, api.OK},
		"not the first ones":       {10, 10, cuts(0, 3, 3, 4, 0, 6, 6, 4), 2, api.OK},
		"pieces of one pick":       {1, 1, slices.Repeat(cuts(0, 1), 8), 8, api.OK},
		"as long as can be":        {100, 100000, slices.Repeat(cuts(99, 200), 8), 1, api.OK},
		"not a whole repeat":       {10, 5, cuts(0, 5, 0, 5), 2, api.OK},
		"less than a repeat":       {100, 60, cuts(10, 20, 40, 20, 0, 10, 30, 10, 0, 60), 2, api.OK},
		"no repeat":                {0, 12, slices.Repeat(cuts(0, 1), 9), 0, api.ErrRange},
		"a large repeat":           {101, 12, cuts(0, 7), 0, api.ErrRange},
		"no picks":                 {10, 0, slices.Repeat(cuts(0, 1), 9), 0, api.ErrRange},
		"many picks":               {10, 100001, cuts(0, 7), 0, api.ErrRange},
		"far":                      {10, far, cuts(0, 7), 0, api.ErrRange},
		"deep":                     {deep, 12, cuts(0, 7), 0, api.ErrRange},
		"nine lengths":             {10, 12, slices.Repeat(cuts(10, 0), 9), 0, api.ErrLong},
		"a length without picks":   {10, 5, cuts(0, 7, 0, 0), 0, api.ErrArg},
		"a length of 201":          {10, 12, cuts(0, 201), 0, api.ErrArg},
		"a Begin below":            {10, 12, cuts(-1, 5), 0, api.ErrArg},
		"a Begin above":            {10, 12, cuts(10, 2), 0, api.ErrArg},
		"far lengths":              {10, 12, cuts(1, far, far, 1), 0, api.ErrArg},
		"deep lengths":             {10, 12, cuts(deep, 1, 1, deep), 0, api.ErrArg},
		"the last one is too long": {10, 12, cuts(0, 5, 5, 5, 5, 8), 0, api.ErrState},
	} {
		if n, e := seam.Pieces(c.repeat, c.picks, c.cuts); n != c.n || e != c.e {
			t.Error(name, n, e)
		}
	}
}

// P7.9, P7.14: the pieces against all ways to share out the lengths; one is enough just if it is as long as Cut needs.
func TestPiecesOfAllWays(t *testing.T) {
	r := source(35)
	counts, late := map[int]int{}, 0
	for i := range 900 {
		many := r.IntN(6)
		if i%100 == 0 {
			many = 8
		}
		repeat := upTo(r, 1, 15)
		all := anyCuts(r, repeat, upTo(r, 1, 20), many)
		picks := upTo(r, 1, 60)
		n, e := seam.Pieces(repeat, picks, all)
		if slices.ContainsFunc(all, func(c api.SeamCut) bool { return c.Begin+c.Picks > picks }) {
			if late++; e != api.ErrState || n != 0 {
				t.Fatal(repeat, picks, all, n, e)
			}
			continue
		}
		counts[n]++
		if want := naivePieces(repeat, picks, all, nil); n != want || e != api.OK || n > len(all) {
			t.Fatal(repeat, picks, all, n, e, want)
		}
		if need := checkCut(t, repeat, nil, all); len(all) > 0 && (n == 1) != (need <= picks) {
			t.Fatal(repeat, picks, all, n, need)
		}
	}
	if late < 100 || counts[0] < 20 || counts[1] < 50 || counts[2] < 30 || counts[3] < 10 {
		t.Error("too few samples of a kind", late, counts)
	}
}
