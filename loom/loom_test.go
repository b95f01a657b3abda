package loom_test

import (
	"math/rand/v2"
	"reflect"
	"slices"
	"testing"

	"griffe/api"
	"griffe/loom"
)

// The numbers that lie farthest out.
const far, deep = 1<<63 - 1, -1 << 63

func mill(change int, widths ...int) api.LoomMill {
	return api.LoomMill{Widths: widths, Change: change}
}

// orders returns the orders: Width, Chain, Woven, Early, Late, and so on.
func orders(numbers ...int) []api.LoomOrder {
	var l []api.LoomOrder
	for n := range slices.Chunk(numbers, 5) {
		l = append(l, api.LoomOrder{Width: n[0], Chain: n[1], Woven: n[2], Early: n[3], Late: n[4]})
	}
	return l
}

// runs returns the plan: Order, Loom, From, and so on.
func runs(numbers ...int) []api.LoomRun {
	var plan []api.LoomRun
	for n := range slices.Chunk(numbers, 3) {
		plan = append(plan, api.LoomRun{Order: n[0], Loom: n[1], From: n[2]})
	}
	return plan
}

func stop(loom, low, high int) api.LoomStop {
	return api.LoomStop{Loom: loom, Days: api.Span{Low: low, High: high}}
}

// The mill, the orders A, B and C, and the plan of the chapter's first example.
func exampleMill() api.LoomMill { return mill(2, 10, 20) }

func example() []api.LoomOrder { return orders(5, 1, 10, 0, 20, 15, 2, 12, 0, 20, 5, 1, 8, 0, 20) }

func examplePlan() []api.LoomRun { return runs(0, 0, 0, 1, 1, 0, 2, 0, 10) }

// full returns a mill and orders with all limits reached, that can be woven.
func full() (api.LoomMill, []api.LoomOrder) {
	return mill(20, 100, 1, 100), orders(100, 0, 100, 0, 300, 100, 100, 100, 0, 300, 1, 100, 1, 0, 300, 1, 0, 100, 0, 300, 100, 0, 100, 200, 300, 1, 0, 1, 299, 300, 100, 0, 1, 0, 300)
}

func source(seed uint64) *rand.Rand { return rand.New(rand.NewPCG(seed, 80)) }

// upTo returns an integer from low to high.
func upTo(r *rand.Rand, low, high int) int { return low + r.IntN(high-low+1) }

// anyMill returns a mill with so many looms at most that are from 1 to 3 wide.
func anyMill(r *rand.Rand, looms int) api.LoomMill {
	m := mill(upTo(r, 0, 3))
	for range upTo(r, 1, looms) {
		m.Widths = append(m.Widths, upTo(r, 1, 3))
	}
	return m
}

// anyOrders returns so many orders, that begin up to a last day and have so much time at most beside that in which they are woven.
func anyOrders(r *rand.Rand, many, last, time int) []api.LoomOrder {
	var l []api.LoomOrder
	for range many {
		o := api.LoomOrder{Width: upTo(r, 1, 3), Chain: upTo(r, 0, 2), Woven: upTo(r, 1, 5), Early: upTo(r, 0, last)}
		o.Late = o.Early + o.Woven + upTo(r, 0, time)
		if r.IntN(30) == 0 {
			o.Late = upTo(r, 0, o.Early+2)
		}
		l = append(l, o)
	}
	return l
}

// free returns the first day on which an order does not begin too soon after a run.
func free(m api.LoomMill, l []api.LoomOrder, before api.LoomRun, next int) int {
	day := before.From + l[before.Order].Woven
	if l[before.Order].Chain != l[next].Chain {
		day += m.Change
	}
	return day
}

// comes tells whether one run comes before another one in the order of a loom's runs.
func comes(one, other api.LoomRun) bool {
	return one.From < other.From || one.From == other.From && one.Order < other.Order
}

// isSoon tells whether a run of a plan begins too soon.
func isSoon(m api.LoomMill, l []api.LoomOrder, plan []api.LoomRun, r api.LoomRun) bool {
	before, first := api.LoomRun{}, true
	for _, other := range plan {
		if other.Loom == r.Loom && comes(other, r) && (first || comes(before, other)) {
			before, first = other, false
		}
	}
	return !first && r.From < free(m, l, before, r.Order)
}

// naiveHolds returns the error of a plan whose numbers are valid.
func naiveHolds(m api.LoomMill, l []api.LoomOrder, plan []api.LoomRun) (int, api.Errno) {
	for at, r := range plan {
		o := l[r.Order]
		if at > 0 && plan[at-1].Order >= r.Order {
			return at, api.ErrForm
		}
		if m.Widths[r.Loom] < o.Width {
			return at, api.ErrArg
		}
		if r.From < o.Early || o.Late < r.From+o.Woven {
			return at, api.ErrRange
		}
	}
	for at, r := range plan {
		if isSoon(m, l, plan, r) {
			return at, api.ErrTwice
		}
	}
	return 0, api.OK
}

// zero reports results beside an error that are not zero values.
func zero(t *testing.T, e api.Errno, results ...any) {
	t.Helper()
	for _, result := range results {
		v := reflect.ValueOf(result)
		if e != api.OK && !v.IsZero() && (v.Kind() != reflect.Slice || v.Len() > 0) {
			t.Fatal(result, "beside the error", e)
		}
	}
}

// invalid is mills and orders with their errors.
func invalid() map[string]struct {
	m api.LoomMill
	l []api.LoomOrder
	e api.Errno
} {
	m, l := exampleMill(), example()
	return map[string]struct {
		m api.LoomMill
		l []api.LoomOrder
		e api.Errno
	}{
		"four looms":             {mill(2, 10, 20, 10, 20), l, api.ErrLong},
		"four looms and worse":   {mill(-2, 0, 0, 0, 0), orders(0, 0, 0, 0, 0), api.ErrLong},
		"eight orders":           {m, slices.Repeat(orders(5, 1, 10, 0, 20), 8), api.ErrLong},
		"eight orders and worse": {mill(-1), make([]api.LoomOrder, 8), api.ErrLong},
		"no loom":                {mill(2), l, api.ErrArg},
		"no loom, no orders":     {mill(2), nil, api.ErrArg},
		"a loom of no width":     {mill(2, 10, 0), l, api.ErrArg},
		"a loom too wide":        {mill(2, 101, 20), l, api.ErrArg},
		"a width far below":      {mill(2, 10, deep), l, api.ErrArg},
		"a change below":         {mill(-1, 10, 20), l, api.ErrArg},
		"a change too long":      {mill(21, 10, 20), l, api.ErrArg},
		"an order of no width":   {m, orders(5, 1, 10, 0, 20, 0, 1, 10, 0, 20), api.ErrArg},
		"an order too wide":      {m, orders(101, 1, 10, 0, 20), api.ErrArg},
		"a chain below":          {m, orders(5, -1, 10, 0, 20), api.ErrArg},
		"a chain too great":      {m, orders(5, 101, 10, 0, 20), api.ErrArg},
		"woven on no day":        {m, orders(5, 1, 0, 0, 20), api.ErrArg},
		"woven too long":         {m, orders(5, 1, 101, 0, 300), api.ErrArg},
		"an Early below":         {m, orders(5, 1, 10, -1, 20), api.ErrArg},
		"an Early too late":      {m, orders(5, 1, 10, 301, 300), api.ErrArg},
		"a Late below":           {m, orders(5, 1, 10, 0, -1), api.ErrArg},
		"a Late too late":        {m, orders(5, 1, 10, 0, 301), api.ErrArg},
		"a Late far out":         {m, orders(5, 1, 10, 0, far), api.ErrArg},
	}
}

// P8.1, P1, R2: errors of a mill and of orders, which every function has first.
func TestInvalid(t *testing.T) {
	for name, c := range invalid() {
		if e := loom.Check(c.m, c.l); e != c.e {
			t.Error(name, e)
		}
		plan := runs(9, 9, -9, 8, 8, -8, 9, 9, -9, 9, 9, -9, 9, 9, -9, 9, 9, -9, 9, 9, -9, 9, 9, -9, 9, 9, -9)
		results := everything(asked{m: c.m, l: c.l, plan: plan, stop: stop(9, -9, -10)})
		for _, result := range results {
			e, ok := result.(api.Errno)
			if ok && e != c.e {
				t.Error(name, results)
			}
			if !ok {
				zero(t, c.e, result)
			}
		}
		if at, e := loom.Holds(c.m, c.l, plan); at != 0 || e != c.e {
			t.Error(name, at, e)
		}
	}
}

// P8.1, R7: what is valid, up to the limits.
func TestCheck(t *testing.T) {
	m, l := full()
	if e := loom.Check(m, l); e != api.OK {
		t.Error(e)
	}
	for _, l := range [][]api.LoomOrder{nil, {}, orders(100, 0, 1, 300, 0), orders(1, 100, 100, 0, 0), orders(1, 1, 1, 300, 300)} {
		for _, m := range []api.LoomMill{mill(0, 1), mill(20, 100), mill(2, 1, 100, 1)} {
			if e := loom.Check(m, l); e != api.OK {
				t.Error(m, l, e)
			}
		}
	}
}

// P8.2: errors of a plan, in their order, with the run that has them.
func TestHolds(t *testing.T) {
	m, l := exampleMill(), example()
	wide := mill(2, 20, 20)
	apart := orders(5, 1, 10, 0, 20, 5, 2, 10, 0, 40, 5, 1, 8, 3, 20)
	for name, c := range map[string]struct {
		m    api.LoomMill
		l    []api.LoomOrder
		plan []api.LoomRun
		at   int
		e    api.Errno
	}{
		"the example":               {m, l, examplePlan(), 0, api.OK},
		"no run":                    {m, l, nil, 0, api.OK},
		"no order":                  {m, nil, nil, 0, api.OK},
		"some orders":               {m, l, runs(1, 1, 3, 2, 0, 12), 0, api.OK},
		"more runs than orders":     {m, l, runs(0, 0, 0, 1, 1, 0, 2, 0, 10, 3, 0, 18), 0, api.ErrLong},
		"a run without an order":    {m, nil, runs(0, 0, 0), 0, api.ErrLong},
		"an order below":            {m, l, runs(-1, 0, 0), 0, api.ErrNone},
		"an order that is not":      {m, l, runs(0, 0, 0, 3, 0, 18), 1, api.ErrNone},
		"a loom below":              {m, l, runs(0, -1, 0), 0, api.ErrNone},
		"a loom that is not":        {m, l, runs(0, 0, 0, 1, 2, 0), 1, api.ErrNone},
		"a day below":               {m, l, runs(0, 0, 0, 1, 1, -1), 1, api.ErrNone},
		"the last day":              {m, l, runs(0, 0, 300), 0, api.ErrRange},
		"after the last day":        {m, l, runs(0, 0, 301), 0, api.ErrNone},
		"far after the last day":    {m, l, runs(0, 0, far), 0, api.ErrNone},
		"none before form":          {m, l, runs(1, 1, 0, 0, 2, 0), 1, api.ErrNone},
		"turned over":               {m, l, runs(1, 1, 0, 0, 0, 0), 1, api.ErrForm},
		"twice":                     {m, l, runs(0, 0, 0, 1, 1, 0, 1, 1, 0), 2, api.ErrForm},
		"form before width":         {m, l, runs(1, 1, 0, 1, 0, 0), 1, api.ErrForm},
		"form before the days":      {m, l, runs(2, 0, 0, 0, 0, 15), 1, api.ErrForm},
		"the first run decides":     {m, l, runs(0, 0, 11, 0, 9, 9), 0, api.ErrRange},
		"too wide":                  {m, l, runs(0, 0, 0, 1, 0, 0), 1, api.ErrArg},
		"as wide as the loom":       {mill(2, 15), l, runs(1, 0, 0), 0, api.OK},
		"one wider than the loom":   {mill(2, 14), l, runs(1, 0, 0), 0, api.ErrArg},
		"too wide and too late":     {m, l, runs(1, 0, 20), 0, api.ErrArg},
		"ready on the last day":     {m, l, runs(0, 0, 10), 0, api.OK},
		"ready after the last day":  {m, l, runs(0, 0, 11), 0, api.ErrRange},
		"on its first day":          {m, apart, runs(2, 0, 3), 0, api.OK},
		"before its first day":      {m, apart, runs(2, 0, 2), 0, api.ErrRange},
		"days before too soon":      {m, apart, runs(0, 0, 0, 1, 0, 5, 2, 0, 13), 2, api.ErrRange},
		"after one of its chain":    {m, apart, runs(0, 0, 0, 2, 0, 10), 0, api.OK},
		"too soon after it":         {m, apart, runs(0, 0, 0, 2, 0, 9), 1, api.ErrTwice},
		"after another chain":       {m, apart, runs(0, 0, 0, 1, 0, 12), 0, api.OK},
		"too soon for a change":     {m, apart, runs(0, 0, 0, 1, 0, 11), 1, api.ErrTwice},
		"no days for a change":      {mill(0, 10), apart, runs(0, 0, 0, 1, 0, 10), 0, api.OK},
		"on different looms":        {wide, l, runs(0, 0, 0, 1, 1, 0), 0, api.OK},
		"on one day":                {wide, l, runs(0, 0, 0, 1, 0, 0), 1, api.ErrTwice},
		"the first one is too soon": {m, apart, runs(0, 0, 9, 2, 0, 3), 0, api.ErrTwice},
		"the first one in the list": {m, apart, runs(0, 0, 9, 1, 0, 18, 2, 0, 3), 0, api.ErrTwice},
		"the run before it is near": {m, apart, runs(0, 0, 0, 1, 0, 27, 2, 0, 12), 0, api.OK},
	} {
		at, e := loom.Holds(c.m, c.l, c.plan)
		if at != c.at || e != c.e {
			t.Error(name, at, e)
		}
	}
	m, l = full()
	if at, e := loom.Holds(m, l, runs(0, 0, 0, 1, 2, 0, 2, 1, 121, 3, 1, 0, 4, 0, 200, 5, 1, 299, 6, 0, 100)); at != 0 || e != api.OK {
		t.Error(at, e)
	}
}

// P8.2: plans of any runs, looked at run by run.
func TestHoldsAny(t *testing.T) {
	r := source(1)
	var seen [10]int
	for range 60000 {
		m, l := anyMill(r, 3), anyOrders(r, upTo(r, 1, 5), 8, 12)
		var plan []api.LoomRun
		for order := range l {
			if r.IntN(12) > 0 {
				plan = append(plan, api.LoomRun{Order: order, Loom: r.IntN(len(m.Widths)), From: max(0, l[order].Early+upTo(r, -1, 12))})
			}
		}
		if len(plan) > 1 && r.IntN(10) == 0 {
			plan[r.IntN(len(plan))].Order = r.IntN(len(l))
		}
		at, e := loom.Holds(m, l, plan)
		if wantAt, want := naiveHolds(m, l, plan); at != wantAt || e != want {
			t.Fatal(m, l, plan, at, e, wantAt, want)
		}
		seen[e]++
	}
	for _, e := range []api.Errno{api.OK, api.ErrForm, api.ErrArg, api.ErrRange, api.ErrTwice} {
		if seen[e] < 500 {
			t.Error(seen)
		}
	}
}
