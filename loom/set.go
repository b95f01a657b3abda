package loom

import (
	"cmp"
	"iter"
	"slices"
)

// A set of orders or looms has a bit for each of its numbers.

// members returns the numbers of a set, ascending.
func members(set int) []int {
	var numbers []int
	for n := 0; set>>n > 0; n++ {
		if set>>n&1 == 1 {
			numbers = append(numbers, n)
		}
	}
	return numbers
}

// parts yields all sets whose numbers are all in a set, itself and the empty one too.
func parts(set int) iter.Seq[int] {
	return func(yield func(int) bool) {
		for part := set; yield(part) && part > 0; {
			part = (part - 1) & set
		}
	}
}

// fewest returns the smallest list of the fewest numbers below n whose set is asked for.
func fewest(n int, asked func(set int) bool) (numbers []int, ok bool) {
	for set := range 1 << n {
		if !asked(set) {
			continue
		}
		list := members(set)
		if !ok || cmp.Or(cmp.Compare(len(list), len(numbers)), slices.Compare(list, numbers)) < 0 {
			numbers, ok = list, true
		}
	}
	return numbers, ok
}
