package chain

import "slices"

// kinds is how many kinds of steps there are: 0 is a stay, 1 as it should be, 2 a skip.
const kinds = 3

func areSteps(numbers ...int) bool {
	for _, n := range numbers {
		if n < 0 || n >= kinds {
			return false
		}
	}
	return true
}

// faultsOf returns how many faults some steps are.
func faultsOf(steps ...int) int {
	many := 0
	for _, step := range steps {
		if step != 1 {
			many++
		}
	}
	return many
}

// state is where courses have come to: the place of the card at the needles, and how many faults there were.
type state struct{ at, faults int }

// ends returns how many courses with at most so many faults weave a cloth and end in each state.
func (b belt) ends(cloth []int, most int) map[state]int {
	now := map[state]int{}
	for at := range b.around(0) {
		now[state{at, 0}] = 1
	}
	for _, pick := range cloth {
		now = b.further(now, pick, most)
	}
	return now
}

// further returns the states of courses that weave one pick more.
func (b belt) further(now map[state]int, pick, most int) map[state]int {
	next := map[state]int{}
	for s, many := range now {
		if !(cylinder{b, s.at}).weaves(pick) {
			continue
		}
		for step := range kinds {
			after := state{b.after(s.at, step), s.faults + faultsOf(step)}
			if after.faults <= most {
				next[after] += many
			}
		}
	}
	return next
}

// moment is a pick that is to be woven, and the place of the card at the needles.
type moment struct{ pick, at int }

// fewest returns the fewest faults with which the rest of a cloth is woven from each moment on, without those from which it cannot be.
func (b belt) fewest(cloth []int) map[moment]int {
	left := map[moment]int{}
	for at := range b.around(0) {
		left[moment{len(cloth), at}] = 0
	}
	for pick, row := range slices.Backward(cloth) {
		for at := range b.around(0) {
			if !(cylinder{b, at}).weaves(row) {
				continue
			}
			now := moment{pick, at}
			if _, faults, ok := b.step(left, now); ok {
				left[now] = faults
			}
		}
	}
	return left
}

// step returns the smallest step at a moment from which on the fewest faults are left, and how many these are with that of the step.
func (b belt) step(left map[moment]int, now moment) (step, faults int, ok bool) {
	for s := range kinds {
		rest, can := left[moment{now.pick + 1, b.after(now.at, s)}]
		if n := rest + faultsOf(s); can && (!ok || n < faults) {
			step, faults, ok = s, n, true
		}
	}
	return step, faults, ok
}

// start returns the smallest place from which on the whole cloth is woven with the fewest faults.
func (b belt) start(left map[moment]int) (first int, ok bool) {
	fewest := 0
	for at := range b.around(0) {
		faults, can := left[moment{0, at}]
		if can && (!ok || faults < fewest) {
			first, fewest, ok = at, faults, true
		}
	}
	return first, ok
}

// follow returns the smallest steps with the fewest faults from a place on.
func (b belt) follow(left map[moment]int, first, picks int) []int {
	var steps []int
	at := first
	for pick := range picks {
		step, _, _ := b.step(left, moment{pick, at})
		steps = append(steps, step)
		at = b.after(at, step)
	}
	return steps
}
