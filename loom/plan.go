package loom

import (
	"slices"
	"sort"

	"griffe/api"
)

// never is a day on which no order is ready any more in time.
const never = api.MaxLoomDay + 1

// ends is the soonest days on which a loom is ready with a set of orders, by the order that is woven last.
type ends [api.MaxLoomOrders]int

// alone returns which sets of orders can be woven on one loom. An order with a fixed run has no other one.
func (m mill) alone(loom int, fixed map[int]api.LoomRun) []bool {
	can := make([]bool, 1<<len(m.orders))
	can[0] = true
	ready := make([]ends, len(can))
	for set := range ready {
		for last := range m.orders {
			ready[set][last] = never
			if set>>last&1 == 0 {
				continue
			}
			from := m.orders[last].Early
			if rest := set &^ (1 << last); rest > 0 {
				from = max(from, m.soonest(ready[rest], last))
			}
			ready[set][last] = m.finish(api.LoomRun{Order: last, Loom: loom, From: from}, fixed)
			can[set] = can[set] || ready[set][last] < never
		}
	}
	return can
}

// soonest returns the first day on which an order does not begin too soon after others with which a loom is ready.
func (m mill) soonest(ready ends, next int) int {
	day := never
	for last := range m.orders {
		day = min(day, ready[last]+m.pause(last, next))
	}
	return day
}

// finish returns the soonest day on which the order of a run is ready if it begins with this run or later, or never.
// To wait serves no order but one with a fixed run: any other one could be ready sooner.
func (m mill) finish(r api.LoomRun, fixed map[int]api.LoomRun) int {
	if f, ok := fixed[r.Order]; ok {
		if f.Loom != r.Loom || f.From < r.From {
			return never
		}
		r = f
	}
	if !m.isWide(r) || !m.inTime(r) {
		return never
	}
	return m.ready(r)
}

// together returns which sets of orders can be woven together with some looms.
func (m mill) together(fixed map[int]api.LoomRun, looms ...int) []bool {
	sets := 1 << len(m.orders)
	can := make([]bool, sets)
	can[0] = true
	for _, loom := range looms {
		alone, more := m.alone(loom, fixed), make([]bool, sets)
		for set := range sets {
			for part := range parts(set) {
				more[set] = more[set] || alone[part] && can[set&^part]
			}
		}
		can = more
	}
	return can
}

// weavesAll tells whether all orders can be woven together with some looms.
func (m mill) weavesAll(fixed map[int]api.LoomRun, looms ...int) bool {
	can := m.together(fixed, looms...)
	return can[len(can)-1]
}

// plan returns the smallest plan for all orders, which there must be.
func (m mill) plan() []api.LoomRun {
	fixed := map[int]api.LoomRun{}
	var plan []api.LoomRun
	for order := range m.orders {
		m.fix(order, fixed)
		plan = append(plan, fixed[order])
	}
	return plan
}

// fix adds the smallest run of an order to fixed runs with which all orders can be woven.
func (m mill) fix(order int, fixed map[int]api.LoomRun) {
	o := m.orders[order]
	from := sort.Search(o.Late-o.Woven, func(from int) bool {
		return m.readyBy(order, from+o.Woven).weavesAll(fixed, m.looms()...)
	})
	for loom := range m.Widths {
		fixed[order] = api.LoomRun{Order: order, Loom: loom, From: from}
		if m.weavesAll(fixed, m.looms()...) {
			return
		}
	}
}

// readyBy returns the mill with another day by which an order must be ready.
func (m mill) readyBy(order, late int) mill {
	m.orders = slices.Clone(m.orders)
	m.orders[order].Late = late
	return m
}
