package loom_test

import (
	"slices"
	"testing"

	"griffe/api"
	"griffe/loom"
)

// stands tells whether an order that begins on a day is woven on a day of a stop.
func stands(s api.LoomStop, day, woven int) bool {
	for on := day; on < day+woven; on++ {
		if s.Days.Low <= on && on <= s.Days.High {
			return true
		}
	}
	return false
}

// naivePush returns what becomes of a plan, looked for day by day, and the orders that are late then.
func naivePush(m api.LoomMill, l []api.LoomOrder, plan []api.LoomRun, s api.LoomStop) (after []api.LoomRun, late []int) {
	var done []int
	after = slices.Clone(plan)
	last := -1
	for len(done) < len(plan) {
		at := -1
		for i, r := range plan {
			if !slices.Contains(done, i) && (at < 0 || comes(r, plan[at])) {
				at = i
			}
		}
		done = append(done, at)
		r := &after[at]
		if r.Loom != s.Loom {
			continue
		}
		for last >= 0 && r.From < free(m, l, after[last], r.Order) || stands(s, r.From, l[r.Order].Woven) {
			r.From++
		}
		last = at
	}
	for _, r := range after {
		if r.From+l[r.Order].Woven > l[r.Order].Late {
			late = append(late, r.Order)
		}
	}
	return after, late
}

// P8.8, P8.9: the examples, and stops at the edges of runs.
func TestPush(t *testing.T) {
	m, l, plan := exampleMill(), example(), examplePlan()
	gap := runs(0, 0, 0, 1, 1, 5, 2, 0, 12)
	two := orders(5, 1, 4, 0, 20, 5, 2, 4, 0, 20, 5, 2, 4, 0, 20)
	for name, c := range map[string]struct {
		l     []api.LoomOrder
		plan  []api.LoomRun
		stop  api.LoomStop
		stops []int
		after []api.LoomRun
		late  []int
	}{
		"the example":                  {l, plan, stop(0, 5, 6), from(0, 1), runs(0, 0, 7, 1, 1, 0, 2, 0, 17), from(2, 3)},
		"on 10 and 11":                 {l, plan, stop(0, 10, 11), from(2, 3), runs(0, 0, 0, 1, 1, 0, 2, 0, 12), nil},
		"over both":                    {l, plan, stop(0, 9, 10), []int{0, 2}, runs(0, 0, 11, 1, 1, 0, 2, 0, 21), []int{0, 2}},
		"no run":                       {l, nil, stop(0, 0, 300), nil, nil, nil},
		"no order":                     {nil, nil, stop(0, 0, 300), nil, nil, nil},
		"the first day":                {l, plan, stop(0, 0, 0), from(0, 1), runs(0, 0, 1, 1, 1, 0, 2, 0, 11), nil},
		"the last day":                 {l, plan, stop(0, 17, 17), from(2, 3), runs(0, 0, 0, 1, 1, 0, 2, 0, 18), from(2, 3)},
		"ready on the day":             {l, plan, stop(0, 18, 30), nil, plan, nil},
		"long after":                   {l, plan, stop(0, 300, 300), nil, plan, nil},
		"the other loom":               {l, plan, stop(1, 3, 3), from(1, 2), runs(0, 0, 0, 1, 1, 4, 2, 0, 10), nil},
		"the other loom is late":       {l, plan, stop(1, 8, 8), from(1, 2), runs(0, 0, 0, 1, 1, 9, 2, 0, 10), from(1, 2)},
		"in a gap":                     {l, gap, stop(0, 10, 11), nil, gap, nil},
		"over a gap":                   {l, gap, stop(0, 10, 12), from(2, 3), runs(0, 0, 0, 1, 1, 5, 2, 0, 13), from(2, 3)},
		"before a run":                 {l, gap, stop(1, 0, 4), nil, gap, nil},
		"a gap takes it up":            {l, gap, stop(0, 0, 1), from(0, 1), runs(0, 0, 2, 1, 1, 5, 2, 0, 12), nil},
		"a change stays":               {two, runs(0, 0, 0, 1, 0, 6, 2, 0, 10), stop(0, 3, 4), from(0, 1), runs(0, 0, 5, 1, 0, 11, 2, 0, 15), nil},
		"a change while it stands":     {two, runs(0, 0, 0, 1, 0, 6, 2, 0, 10), stop(0, 4, 5), nil, runs(0, 0, 0, 1, 0, 6, 2, 0, 10), nil},
		"not in the order of the list": {two, runs(0, 0, 14, 1, 0, 0, 2, 0, 4), stop(0, 3, 3), from(1, 2), runs(0, 0, 14, 1, 0, 4, 2, 0, 8), nil},
		"the first one is pushed last": {two, runs(0, 0, 13, 1, 0, 0, 2, 0, 4), stop(0, 0, 5), []int{1, 2}, runs(0, 0, 16, 1, 0, 6, 2, 0, 10), nil},
		"the last day of all":          {l, plan, stop(1, 0, 299), from(1, 2), runs(0, 0, 0, 1, 1, 300, 2, 0, 10), from(1, 2)},
	} {
		stops, e := loom.Stops(m, c.l, c.plan, c.stop)
		after, late, f := loom.Push(m, c.l, c.plan, c.stop)
		if !slices.Equal(stops, c.stops) || !slices.Equal(after, c.after) || !slices.Equal(late, c.late) || e != api.OK || f != api.OK {
			t.Error(name, stops, e, after, late, f)
		}
	}
}

// P8.8, P8.9: errors, in their order.
func TestPushErrors(t *testing.T) {
	m, l, plan := exampleMill(), example(), examplePlan()
	for name, c := range map[string]struct {
		plan []api.LoomRun
		stop api.LoomStop
		e    api.Errno
	}{
		"too many runs":       {runs(0, 0, 0, 1, 1, 0, 2, 0, 10, 3, 0, 18), stop(2, 6, 5), api.ErrLong},
		"a run that is not":   {runs(3, 0, 0), stop(0, 6, 5), api.ErrNone},
		"runs turned over":    {runs(1, 1, 0, 0, 0, 0), stop(2, 6, 5), api.ErrForm},
		"a run too wide":      {runs(1, 0, 0), stop(2, 5, 6), api.ErrArg},
		"a run too late":      {runs(0, 0, 11), stop(2, 6, 5), api.ErrRange},
		"a run too soon":      {runs(0, 0, 0, 2, 0, 9), stop(2, 6, 5), api.ErrTwice},
		"a loom below":        {plan, stop(-1, 5, 6), api.ErrNone},
		"a loom that is not":  {plan, stop(2, 5, 6), api.ErrNone},
		"a loom before days":  {plan, stop(2, 6, 5), api.ErrNone},
		"days turned over":    {plan, stop(0, 6, 5), api.ErrArg},
		"days below":          {plan, stop(0, -1, 5), api.ErrArg},
		"days after the last": {plan, stop(0, 5, 301), api.ErrArg},
		"days far out":        {plan, stop(0, deep, far), api.ErrArg},
		"both days too late":  {plan, stop(0, 301, 301), api.ErrArg},
	} {
		stops, e := loom.Stops(m, l, c.plan, c.stop)
		after, late, f := loom.Push(m, l, c.plan, c.stop)
		if e != c.e || f != c.e {
			t.Error(name, e, f)
		}
		zero(t, e, stops)
		zero(t, f, after, late)
	}
	for name, c := range map[string]struct {
		stop api.LoomStop
		e    api.Errno
	}{
		"one begins after the last day":     {stop(0, 5, 300), api.ErrFull},
		"the next one does":                 {stop(0, 9, 290), api.ErrFull},
		"the next one begins on it":         {stop(0, 9, 289), api.OK},
		"the next one would only be pushed": {stop(0, 10, 300), api.ErrFull},
		"none is woven then":                {stop(0, 18, 300), api.OK},
		"on the other loom":                 {stop(1, 11, 300), api.ErrFull},
	} {
		if stops, e := loom.Stops(m, l, plan, c.stop); e != api.OK {
			t.Error(name, stops, e)
		}
		after, late, e := loom.Push(m, l, plan, c.stop)
		if e != c.e {
			t.Error(name, after, late, e)
		}
		zero(t, e, after, late)
	}
}

// P8.8, P8.9, P8.14: plans of any runs, pushed day by day.
func TestPushAny(t *testing.T) {
	r := source(7)
	moved, lateOnes, same := 0, 0, 0
	for tries := 0; tries < 3000; {
		m, l := anyMill(r, 3), anyOrders(r, upTo(r, 1, 6), 8, 20)
		plan, e := loom.Plan(m, l)
		if e != api.OK {
			continue
		}
		tries++
		for at := range plan {
			other := slices.Clone(plan)
			other[at].From += upTo(r, 1, 3)
			if _, e := loom.Holds(m, l, other); e == api.OK {
				plan = other
			}
		}
		plan = slices.DeleteFunc(plan, func(api.LoomRun) bool { return r.IntN(10) == 0 })
		low := upTo(r, 0, 20)
		s := stop(r.IntN(len(m.Widths)), low, low+upTo(r, 0, 4))
		var want []int
		for _, run := range plan {
			if run.Loom == s.Loom && stands(s, run.From, l[run.Order].Woven) {
				want = append(want, run.Order)
			}
		}
		stops, e := loom.Stops(m, l, plan, s)
		if !slices.Equal(stops, want) || e != api.OK {
			t.Fatal(m, l, plan, s, stops, e, want)
		}
		after, late, e := loom.Push(m, l, plan, s)
		wantAfter, wantLate := naivePush(m, l, plan, s)
		if !slices.Equal(after, wantAfter) || !slices.Equal(late, wantLate) || e != api.OK {
			t.Fatal(m, l, plan, s, after, late, e, wantAfter, wantLate)
		}
		checkPushed(t, m, l, plan, after, s, late)
		switch {
		case len(late) > 0:
			lateOnes++
		case slices.Equal(after, plan):
			same++
		default:
			moved++
		}
	}
	if moved < 200 || lateOnes < 200 || same < 200 {
		t.Error(moved, lateOnes, same)
	}
}

// checkPushed reports what does not follow of a plan that is pushed.
func checkPushed(t *testing.T, m api.LoomMill, l []api.LoomOrder, plan, after []api.LoomRun, s api.LoomStop, late []int) {
	t.Helper()
	for at, r := range after {
		if r.Loom == s.Loom && stands(s, r.From, l[r.Order].Woven) || r.From < plan[at].From || isSoon(m, l, after, r) {
			t.Fatal(m, l, plan, after, s)
		}
	}
	stops, _ := loom.Stops(m, l, plan, s)
	if len(stops) == 0 && (len(late) > 0 || !slices.Equal(plan, after)) {
		t.Fatal(m, l, plan, after, s, late)
	}
	if _, e := loom.Holds(m, l, after); (e == api.OK) != (len(late) == 0) {
		t.Fatal(m, l, plan, after, s, late, e)
	}
}
