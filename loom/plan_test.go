package loom_test

import (
	"cmp"
	"slices"
	"testing"

	"griffe/api"
	"griffe/loom"
)

// sequences calls found with each plan in which looms, from one on, weave orders in some sequence, each as soon as it can be.
// No plan with such a sequence is smaller.
func sequences(m api.LoomMill, l []api.LoomOrder, left []int, at int, plan []api.LoomRun, found func([]api.LoomRun)) {
	if len(left) == 0 {
		found(plan)
		return
	}
	if at == len(m.Widths) {
		return
	}
	for i, order := range left {
		r := api.LoomRun{Order: order, Loom: at, From: l[order].Early}
		if last := len(plan) - 1; last >= 0 && plan[last].Loom == at {
			r.From = max(r.From, free(m, l, plan[last], order))
		}
		if l[order].Width <= m.Widths[at] && r.From+l[order].Woven <= l[order].Late {
			sequences(m, l, slices.Delete(slices.Clone(left), i, i+1), at, append(slices.Clone(plan), r), found)
		}
	}
	sequences(m, l, left, at+1, plan, found)
}

func comparePlans(a, b []api.LoomRun) int {
	return slices.CompareFunc(a, b, func(x, y api.LoomRun) int {
		return cmp.Or(cmp.Compare(x.From, y.From), cmp.Compare(x.Loom, y.Loom))
	})
}

// naivePlan returns the smallest plan for some orders, if there is one.
func naivePlan(m api.LoomMill, l []api.LoomOrder, some []int) (smallest []api.LoomRun, ok bool) {
	sequences(m, l, some, 0, nil, func(plan []api.LoomRun) {
		plan = slices.SortedFunc(slices.Values(plan), func(a, b api.LoomRun) int { return a.Order - b.Order })
		if !ok || comparePlans(plan, smallest) < 0 {
			smallest, ok = plan, true
		}
	})
	return smallest, ok
}

func canWeave(m api.LoomMill, l []api.LoomOrder, some []int) bool {
	_, ok := naivePlan(m, l, some)
	return ok
}

// from returns the numbers from low to below high.
func from(low, high int) []int {
	var numbers []int
	for n := low; n < high; n++ {
		numbers = append(numbers, n)
	}
	return numbers
}

// lists returns all ascending lists of so many numbers from low to below high, the smallest one first.
func lists(low, high, many int) [][]int {
	if many == 0 {
		return [][]int{nil}
	}
	var all [][]int
	for first := low; first < high; first++ {
		for _, rest := range lists(first+1, high, many-1) {
			all = append(all, append([]int{first}, rest...))
		}
	}
	return all
}

// first returns the smallest one of the shortest lists of numbers below n that are asked for.
func first(n int, asked func([]int) bool) ([]int, bool) {
	for many := range n + 1 {
		for _, list := range lists(0, n, many) {
			if asked(list) {
				return list, true
			}
		}
	}
	return nil, false
}

// without returns all numbers below n but those of a list.
func without(n int, list []int) []int {
	return slices.DeleteFunc(from(0, n), func(x int) bool { return slices.Contains(list, x) })
}

// withLooms returns a mill that has only these of its looms.
func withLooms(m api.LoomMill, looms []int) api.LoomMill {
	some := mill(m.Change)
	for _, n := range looms {
		some.Widths = append(some.Widths, m.Widths[n])
	}
	return some
}

// these returns the orders with some numbers.
func these(l []api.LoomOrder, numbers []int) []api.LoomOrder {
	var some []api.LoomOrder
	for _, n := range numbers {
		some = append(some, l[n])
	}
	return some
}

// checkPlan reports that Plan does not return the smallest plan, or not that there is none. It tells whether there is one.
func checkPlan(t *testing.T, m api.LoomMill, l []api.LoomOrder) bool {
	t.Helper()
	plan, e := loom.Plan(m, l)
	want, ok := naivePlan(m, l, from(0, len(l)))
	if (e == api.OK) != ok || !ok && e != api.ErrState || !slices.Equal(plan, want) {
		t.Fatal(m, l, plan, e, want, ok)
	}
	if at, f := naiveHolds(m, l, plan); at != 0 || f != api.OK {
		t.Fatal(m, l, plan, at, f)
	}
	if at, f := loom.Holds(m, l, plan); at != 0 || f != api.OK {
		t.Fatal(m, l, plan, at, f)
	}
	return ok
}

// P8.3: the examples, and plans at the edges of what can be woven.
func TestPlan(t *testing.T) {
	m, l := exampleMill(), example()
	fullMill, fullOrders := full()
	for name, c := range map[string]struct {
		m    api.LoomMill
		l    []api.LoomOrder
		plan []api.LoomRun
		e    api.Errno
	}{
		"the first example":         {m, l, examplePlan(), api.OK},
		"the second example":        {m, orders(5, 1, 10, 0, 20, 15, 2, 12, 0, 20, 5, 3, 8, 0, 20), runs(0, 0, 0, 1, 1, 0, 2, 0, 12), api.OK},
		"the third example":         {m, orders(5, 1, 10, 0, 20, 15, 2, 12, 0, 20, 5, 3, 9, 0, 20), nil, api.ErrState},
		"the fourth example":        {m, orders(5, 1, 25, 0, 20, 15, 2, 12, 0, 20, 5, 1, 8, 0, 20), nil, api.ErrState},
		"no order":                  {m, nil, nil, api.OK},
		"an order without a day":    {m, orders(5, 1, 1, 7, 7), nil, api.ErrState},
		"an order with one day":     {m, orders(5, 1, 1, 7, 8), runs(0, 0, 7), api.OK},
		"Late before Early":         {m, orders(5, 1, 1, 9, 7), nil, api.ErrState},
		"too wide for all":          {m, orders(21, 1, 1, 0, 9), nil, api.ErrState},
		"a loom that is as wide":    {m, orders(20, 1, 1, 0, 9), runs(0, 1, 0), api.OK},
		"From before Loom":          {m, orders(5, 1, 4, 0, 20, 5, 1, 4, 0, 20, 5, 1, 4, 0, 20), runs(0, 0, 0, 1, 1, 0, 2, 0, 4), api.OK},
		"no change to wait for":     {m, orders(5, 1, 4, 0, 20, 5, 2, 4, 0, 20, 5, 2, 4, 0, 20), runs(0, 0, 0, 1, 1, 0, 2, 1, 4), api.OK},
		"the first order waits":     {mill(2, 10), orders(5, 1, 10, 0, 20, 5, 1, 4, 0, 5), runs(0, 0, 4, 1, 0, 0), api.OK},
		"the first waits for two":   {mill(2, 10), orders(5, 1, 10, 0, 30, 5, 2, 4, 0, 20, 5, 1, 4, 3, 9), runs(0, 0, 15, 1, 0, 9, 2, 0, 3), api.OK},
		"a gap between two":         {mill(2, 10), orders(5, 1, 10, 0, 30, 5, 1, 4, 13, 19), runs(0, 0, 0, 1, 0, 13), api.OK},
		"fixed though not soonest":  {mill(0, 10), orders(5, 1, 3, 0, 9, 5, 1, 6, 1, 10), runs(0, 0, 0, 1, 0, 3), api.OK},
		"the first leaves its loom": {m, orders(5, 1, 9, 0, 20, 5, 2, 9, 0, 9, 20, 3, 9, 0, 9), runs(0, 0, 11, 1, 0, 0, 2, 1, 0), api.OK},
		"the smallest loom":         {mill(2, 20, 10, 20), orders(5, 1, 9, 0, 9, 20, 3, 9, 0, 9), runs(0, 0, 0, 1, 2, 0), api.OK},
		"a loom kept for another":   {mill(2, 20, 10), orders(5, 1, 9, 0, 9, 20, 3, 9, 0, 9), runs(0, 1, 0, 1, 0, 0), api.OK},
		"up to the last day":        {mill(20, 1), orders(1, 1, 100, 0, 300, 1, 1, 100, 100, 200, 1, 1, 100, 200, 300), runs(0, 0, 0, 1, 0, 100, 2, 0, 200), api.OK},
		"a day too few":             {mill(20, 1), orders(1, 1, 100, 0, 300, 1, 1, 100, 0, 300, 1, 2, 81, 0, 300), nil, api.ErrState},
		"all days":                  {mill(20, 1), orders(1, 1, 100, 0, 300, 1, 1, 100, 0, 300, 1, 2, 80, 0, 300), runs(0, 0, 0, 1, 0, 100, 2, 0, 220), api.OK},
		"all limits":                {fullMill, fullOrders, runs(0, 0, 0, 1, 2, 0, 2, 1, 0, 3, 1, 21, 4, 0, 200, 5, 1, 299, 6, 0, 100), api.OK},
	} {
		plan, e := loom.Plan(c.m, c.l)
		if !slices.Equal(plan, c.plan) || e != c.e {
			t.Error(name, plan, e)
		}
	}
}

// P8.3, P8.10: all plans with days up to a last one, the smallest one that holds first.
func TestPlanByDays(t *testing.T) {
	r := source(2)
	woven := 0
	for range 400 {
		m, l := anyMill(r, 2), anyOrders(r, upTo(r, 0, 3), 3, 3)
		plan, e := loom.Plan(m, l)
		last := 0
		for _, o := range l {
			last = max(last, o.Late)
		}
		want, ok := byDays(m, l, last, nil)
		if (e == api.OK) != ok || !slices.Equal(plan, want) {
			t.Fatal(m, l, plan, e, want)
		}
		if ok {
			woven++
		}
	}
	if woven < 100 || woven > 350 {
		t.Error(woven)
	}
}

// byDays returns the first plan that holds and begins with some runs, of all with days up to a last one.
func byDays(m api.LoomMill, l []api.LoomOrder, last int, plan []api.LoomRun) ([]api.LoomRun, bool) {
	if len(plan) == len(l) {
		_, e := naiveHolds(m, l, plan)
		return plan, e == api.OK
	}
	for day := range last + 1 {
		for n := range m.Widths {
			run := api.LoomRun{Order: len(plan), Loom: n, From: day}
			if all, ok := byDays(m, l, last, append(slices.Clone(plan), run)); ok {
				return all, true
			}
		}
	}
	return nil, false
}

// P8.3, P8.10: plans of up to seven orders on up to three looms, by all sequences.
func TestPlanAny(t *testing.T) {
	r := source(3)
	for many := range api.MaxLoomOrders + 1 {
		woven, samples := 0, 300
		if many > 5 {
			samples = 60
		}
		for range samples {
			m := anyMill(r, 3)
			if checkPlan(t, m, anyOrders(r, many, 6, 2+5*many/len(m.Widths))) {
				woven++
			}
		}
		if woven < samples/8 || many > 1 && woven > samples-samples/8 {
			t.Error(many, woven, samples)
		}
	}
}

// P8.4, P8.5: the examples, and orders with many lists of equal length.
func TestAgainst(t *testing.T) {
	m := exampleMill()
	for name, c := range map[string]struct {
		m       api.LoomMill
		l       []api.LoomOrder
		against []int
		left    []int
	}{
		"the first example":     {m, example(), nil, nil},
		"the third example":     {m, orders(5, 1, 10, 0, 20, 15, 2, 12, 0, 20, 5, 3, 9, 0, 20), from(0, 3), from(0, 1)},
		"the fourth example":    {m, orders(5, 1, 25, 0, 20, 15, 2, 12, 0, 20, 5, 1, 8, 0, 20), from(0, 1), from(0, 1)},
		"no order":              {m, nil, nil, nil},
		"only the last one":     {m, orders(5, 1, 1, 0, 20, 5, 1, 1, 0, 20, 5, 1, 9, 0, 8), from(2, 3), from(2, 3)},
		"two of three":          {mill(0, 9), orders(5, 1, 9, 0, 17, 5, 1, 1, 0, 20, 5, 1, 9, 0, 17), []int{0, 2}, from(0, 1)},
		"one beside two":        {mill(0, 9), orders(5, 1, 9, 0, 9, 5, 1, 5, 0, 10, 5, 1, 5, 0, 10), from(0, 2), from(0, 1)},
		"the shorter list":      {mill(0, 9), orders(5, 1, 5, 0, 12, 5, 1, 4, 0, 12, 5, 1, 4, 0, 12, 5, 1, 13, 0, 12), from(3, 4), []int{0, 3}},
		"the smallest of them":  {mill(0, 9), orders(5, 1, 5, 0, 8, 5, 1, 5, 0, 8, 5, 1, 5, 0, 8), from(0, 2), from(0, 2)},
		"none of seven":         {mill(0, 9), slices.Repeat(orders(10, 1, 5, 0, 8), 7), from(0, 1), from(0, 7)},
		"one of seven too many": {mill(0, 9, 9, 9), slices.Repeat(orders(5, 1, 5, 0, 10), 7), from(0, 7), from(0, 1)},
	} {
		against, e := loom.Against(c.m, c.l)
		late := api.OK
		if c.against == nil {
			late = api.ErrNone
		}
		if !slices.Equal(against, c.against) || e != late {
			t.Error(name, against, e)
		}
		if left, e := loom.Left(c.m, c.l); !slices.Equal(left, c.left) || e != api.OK {
			t.Error(name, left, e)
		}
	}
}

// P8.4, P8.5, P8.7, P8.11, P8.13: all lists of orders and of looms, the shortest and smallest ones first.
func TestListsAny(t *testing.T) {
	r := source(4)
	var lengths [3][api.MaxLoomOrders + 1]int
	for range 1500 {
		m, l := anyMill(r, 3), anyOrders(r, upTo(r, 0, 5), 4, 8)
		against, e := loom.Against(m, l)
		want, ok := first(len(l), func(list []int) bool { return !canWeave(m, l, list) })
		if !slices.Equal(against, want) || (e == api.OK) != ok || !ok && e != api.ErrNone {
			t.Fatal(m, l, against, e, want, ok)
		}
		left, e := loom.Left(m, l)
		want, _ = first(len(l), func(list []int) bool { return canWeave(m, l, without(len(l), list)) })
		if !slices.Equal(left, want) || e != api.OK {
			t.Fatal(m, l, left, e, want)
		}
		both := slices.ContainsFunc(against, func(order int) bool { return slices.Contains(left, order) })
		if both != ok {
			t.Fatal(m, l, against, left)
		}
		looms, e := loom.Fewest(m, l)
		want, ok = first(len(m.Widths), func(list []int) bool { return canWeave(withLooms(m, list), l, from(0, len(l))) })
		if !slices.Equal(looms, want) || (e == api.OK) != ok || !ok && e != api.ErrState {
			t.Fatal(m, l, looms, e, want, ok)
		}
		for i, list := range [][]int{against, left, looms} {
			lengths[i][len(list)]++
		}
	}
	for i, most := range []int{3, 3, 2} {
		for length := 1; length <= most; length++ {
			if lengths[i][length] < 8 {
				t.Error(lengths)
			}
		}
	}
}

// P8.6: the examples, and spans of which several are as much too short.
func TestOver(t *testing.T) {
	m := exampleMill()
	one := mill(9, 10)
	for name, c := range map[string]struct {
		m         api.LoomMill
		l         []api.LoomOrder
		low, high int
		work      int
	}{
		"the third example":           {m, orders(5, 1, 10, 0, 20, 15, 2, 12, 0, 20, 5, 3, 9, 0, 20), 0, 0, 0},
		"the fourth example":          {m, orders(5, 1, 25, 0, 20, 15, 2, 12, 0, 20, 5, 1, 8, 0, 20), 0, 20, 45},
		"no order":                    {m, nil, 0, 0, 0},
		"as much as can be":           {m, orders(5, 1, 20, 5, 15), 0, 0, 0},
		"one more":                    {m, orders(5, 1, 21, 5, 15), 5, 15, 21},
		"too wide is not too much":    {one, orders(11, 1, 5, 5, 10), 0, 0, 0},
		"a change is not work":        {one, orders(1, 1, 5, 5, 15, 1, 2, 5, 5, 15), 0, 0, 0},
		"the days within":             {one, orders(1, 1, 5, 0, 30, 1, 1, 5, 10, 14, 1, 1, 5, 12, 300), 10, 14, 5},
		"two together":                {one, orders(1, 1, 7, 10, 20, 1, 1, 7, 12, 22), 10, 22, 14},
		"one of both is more":         {one, orders(1, 1, 13, 10, 20, 1, 1, 7, 12, 24), 10, 24, 20},
		"the smallest Low":            {one, orders(1, 1, 12, 10, 20, 1, 1, 2, 8, 20), 8, 20, 14},
		"the smallest High":           {one, orders(1, 1, 12, 10, 20, 1, 1, 2, 10, 22), 10, 20, 12},
		"the earlier one":             {one, orders(1, 1, 12, 110, 120, 1, 1, 12, 10, 20), 10, 20, 12},
		"the one that is more":        {one, orders(1, 1, 13, 110, 120, 1, 1, 12, 10, 20), 110, 120, 13},
		"no day":                      {one, orders(1, 1, 2, 10, 10), 9, 10, 2},
		"no day, and one is enough":   {one, orders(1, 1, 1, 10, 10), 0, 0, 0},
		"no day at the first one":     {one, orders(1, 1, 2, 0, 0), 0, 1, 2},
		"no day at the last one":      {one, orders(1, 1, 2, 300, 300), 299, 300, 2},
		"Late before Early":           {one, orders(1, 1, 2, 10, 7), 6, 7, 2},
		"Late long before Early":      {one, orders(1, 1, 2, 300, 0), 0, 1, 2},
		"all days are not too much":   {mill(0, 1), slices.Repeat(orders(1, 1, 100, 0, 300), 3), 0, 0, 0},
		"all days":                    {mill(0, 1), slices.Repeat(orders(1, 1, 100, 0, 300), 4), 0, 300, 400},
		"all days of all looms":       {mill(0, 1, 1, 1), slices.Repeat(orders(1, 1, 100, 68, 300), 7), 68, 300, 700},
		"not all days, on all looms":  {mill(0, 1, 1, 1), slices.Repeat(orders(1, 1, 100, 66, 300), 7), 0, 0, 0},
		"the last day of three looms": {mill(0, 1, 1, 1), slices.Repeat(orders(1, 1, 1, 299, 300), 4), 299, 300, 4},
	} {
		days, work, e := loom.Over(c.m, c.l)
		want := api.OK
		if c.work == 0 {
			want = api.ErrNone
		}
		if days.Low != c.low || days.High != c.high || work != c.work || e != want {
			t.Error(name, days, work, e)
		}
	}
}

// P8.6, P8.12: all spans, of which the best one comes first; its orders cannot be woven together.
func TestOverAny(t *testing.T) {
	r := source(5)
	found := 0
	for range 3000 {
		m, l := anyMill(r, 2), anyOrders(r, upTo(r, 1, 6), 10, 6)
		days, work, e := loom.Over(m, l)
		var want api.Span
		best, bestWork := 0, 0
		for low := 30; low >= 0; low-- {
			for high := 31; high > low; high-- {
				falls := 0
				for _, o := range l {
					if low <= o.Early && o.Late <= high {
						falls += o.Woven
					}
				}
				if above := falls - (high-low)*len(m.Widths); above > 0 && above >= best {
					want, best, bestWork = api.Span{Low: low, High: high}, above, falls
				}
			}
		}
		if (e == api.OK) != (best > 0) || best == 0 && e != api.ErrNone || days != want || work != bestWork {
			t.Fatal(m, l, days, work, e, want, bestWork)
		}
		if e != api.OK {
			continue
		}
		found++
		within := slices.DeleteFunc(slices.Clone(l), func(o api.LoomOrder) bool { return o.Early < days.Low || o.Late > days.High })
		if plan, e := loom.Plan(m, within); e != api.ErrState {
			t.Fatal(m, within, plan, e)
		}
		if plan, e := loom.Plan(m, l); e != api.ErrState {
			t.Fatal(m, l, plan, e)
		}
	}
	if found < 500 || found > 2500 {
		t.Error(found)
	}
}

// P8.7: the examples, and looms of which some will do.
func TestFewest(t *testing.T) {
	m, l := exampleMill(), example()
	for name, c := range map[string]struct {
		m     api.LoomMill
		l     []api.LoomOrder
		looms []int
		e     api.Errno
	}{
		"A and C":                  {m, these(l, []int{0, 2}), from(0, 1), api.OK},
		"B":                        {m, these(l, from(1, 2)), from(1, 2), api.OK},
		"A, B and C":               {m, l, from(0, 2), api.OK},
		"no order":                 {m, nil, nil, api.OK},
		"too much":                 {m, orders(5, 1, 21, 0, 20), nil, api.ErrState},
		"too wide":                 {m, orders(21, 1, 1, 0, 20), nil, api.ErrState},
		"the last two":             {mill(0, 1, 5, 5), slices.Repeat(orders(5, 1, 10, 0, 19), 2), from(1, 3), api.OK},
		"the first and the last":   {mill(0, 5, 1, 5), slices.Repeat(orders(5, 1, 10, 0, 19), 2), []int{0, 2}, api.OK},
		"the smallest of lists":    {mill(0, 5, 5, 5), slices.Repeat(orders(5, 1, 10, 0, 19), 2), from(0, 2), api.OK},
		"all":                      {mill(0, 5, 5, 5), slices.Repeat(orders(5, 1, 10, 0, 19), 3), from(0, 3), api.OK},
		"one that can do with all": {mill(0, 1, 2, 3), orders(1, 1, 1, 0, 9, 2, 1, 1, 0, 9, 3, 1, 1, 0, 9), from(2, 3), api.OK},
	} {
		looms, e := loom.Fewest(c.m, c.l)
		if !slices.Equal(looms, c.looms) || e != c.e {
			t.Error(name, looms, e)
		}
	}
}

// P8.13: orders that can be woven together still can be with more room.
func TestMoreRoom(t *testing.T) {
	r := source(6)
	tries := 0
	for tries < 300 {
		m, l := anyMill(r, 3), anyOrders(r, upTo(r, 1, 7), 4, 12)
		if _, e := loom.Plan(m, l); e != api.OK {
			continue
		}
		tries++
		try := func(m api.LoomMill, l []api.LoomOrder) {
			t.Helper()
			plan, e := loom.Plan(m, l)
			against, none := loom.Against(m, l)
			if e != api.OK || none != api.ErrNone {
				t.Fatal(m, l, plan, e, against, none)
			}
		}
		if len(m.Widths) < api.MaxLoomLooms {
			try(mill(m.Change, append(slices.Clone(m.Widths), 1)...), l)
		}
		if m.Change > 0 {
			try(mill(m.Change-1, m.Widths...), l)
		}
		for i, o := range l {
			try(m, slices.Delete(slices.Clone(l), i, i+1))
			other := slices.Clone(l)
			other[i].Early = max(0, o.Early-1)
			try(m, other)
			other[i] = o
			other[i].Late++
			try(m, other)
		}
	}
}
