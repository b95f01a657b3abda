package loom

import (
	"cmp"
	"slices"

	"griffe/api"
)

// mill is a mill with its orders.
type mill struct {
	api.LoomMill
	orders []api.LoomOrder
}

// looms returns the numbers of all looms.
func (m mill) looms() []int { return members(1<<len(m.Widths) - 1) }

// ready returns the day on which a run is ready.
func (m mill) ready(r api.LoomRun) int { return r.From + m.orders[r.Order].Woven }

// isLate tells whether a run is ready after the day by which it must be.
func (m mill) isLate(r api.LoomRun) bool { return m.ready(r) > m.orders[r.Order].Late }

// isWide tells whether the loom of a run is wide enough.
func (m mill) isWide(r api.LoomRun) bool { return m.orders[r.Order].Width <= m.Widths[r.Loom] }

// inTime tells whether a run begins and is ready on days on which its order can be woven.
func (m mill) inTime(r api.LoomRun) bool { return r.From >= m.orders[r.Order].Early && !m.isLate(r) }

// pause returns how many days a loom needs between an order and the next one.
func (m mill) pause(order, next int) int {
	if m.orders[order].Chain == m.orders[next].Chain {
		return 0
	}
	return m.Change
}

// open returns the first day on which an order does not begin too soon after a run.
func (m mill) open(before api.LoomRun, next int) int {
	return m.ready(before) + m.pause(before.Order, next)
}

// errorOf returns the error of one run of a plan, without a look at the other runs of its loom.
func (m mill) errorOf(plan []api.LoomRun, at int) api.Errno {
	r := plan[at]
	if !areFrom(0, len(m.orders)-1, r.Order) || !areFrom(0, len(m.Widths)-1, r.Loom) || !areFrom(0, api.MaxLoomDay, r.From) {
		return api.ErrNone
	}
	if at > 0 && r.Order <= plan[at-1].Order {
		return api.ErrForm
	}
	if !m.isWide(r) {
		return api.ErrArg
	}
	if !m.inTime(r) {
		return api.ErrRange
	}
	return api.OK
}

// tooSoonIn returns what tells whether a run of a plan begins too soon.
func (m mill) tooSoonIn(plan []api.LoomRun) func(api.LoomRun) bool {
	return func(r api.LoomRun) bool {
		runs := runsOf(plan, r.Loom)
		at := slices.Index(runs, r)
		return at > 0 && r.From < m.open(runs[at-1], r.Order)
	}
}

// over returns the days into which the most work above what all looms can weave falls, and that work; it is 0 if there are none.
func (m mill) over() (days api.Span, work int) {
	most := 0
	for low := range api.MaxLoomDay {
		for high := low + 1; high <= api.MaxLoomDay; high++ {
			falls := m.work(low, high)
			if above := falls - (high-low)*len(m.Widths); above > most {
				days, work, most = api.Span{Low: low, High: high}, falls, above
			}
		}
	}
	return days, work
}

// work returns the days that are woven for all orders whose days are from low to high.
func (m mill) work(low, high int) int {
	work := 0
	for _, o := range m.orders {
		if o.Early >= low && o.Late <= high {
			work += o.Woven
		}
	}
	return work
}

// still is a mill with a loom that stands still.
type still struct {
	mill
	api.LoomStop
}

// stops tells whether a run is woven on some day on which its loom stands still.
func (s still) stops(r api.LoomRun) bool {
	return r.Loom == s.Loom && r.From <= s.Days.High && s.ready(r) > s.Days.Low
}

// push returns what becomes of a plan.
func (s still) push(plan []api.LoomRun) []api.LoomRun {
	runs := runsOf(plan, s.Loom)
	for at := range runs {
		r := &runs[at]
		if at > 0 {
			r.From = max(r.From, s.open(runs[at-1], r.Order))
		}
		if s.stops(*r) {
			r.From = s.Days.High + 1
		}
	}
	others := slices.DeleteFunc(slices.Clone(plan), func(r api.LoomRun) bool { return r.Loom == s.Loom })
	after := append(others, runs...)
	slices.SortFunc(after, func(a, b api.LoomRun) int { return cmp.Compare(a.Order, b.Order) })
	return after
}

// runsOf returns the runs of a loom, in their order: those that begin on one day stay in the order of the plan, which is that of their numbers.
func runsOf(plan []api.LoomRun, loom int) []api.LoomRun {
	runs := slices.DeleteFunc(slices.Clone(plan), func(r api.LoomRun) bool { return r.Loom != loom })
	slices.SortStableFunc(runs, func(a, b api.LoomRun) int { return cmp.Compare(a.From, b.From) })
	return runs
}

// ordersOf returns the orders of those runs for which a condition is true.
func ordersOf(plan []api.LoomRun, is func(api.LoomRun) bool) []int {
	var orders []int
	for _, r := range plan {
		if is(r) {
			orders = append(orders, r.Order)
		}
	}
	return orders
}
