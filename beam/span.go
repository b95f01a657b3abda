package beam

import (
	"sort"

	"griffe/api"
)

// span is all integers from Low to High. It is empty if High is below Low.
type span struct{ api.Span }

func spanOf(low, high int) span { return span{api.Span{Low: low, High: high}} }

// isFrom reports whether the span is valid from low to high.
func (s span) isFrom(low, high int) bool {
	return low <= s.Low && s.Low <= s.High && s.High <= high
}

func (s span) isEmpty() bool { return s.High < s.Low }

func (s span) has(n int) bool { return s.Low <= n && n <= s.High }

// first returns the first integer of the span for which a condition holds, or the one after High if there is none. The condition must go on holding once it holds.
func (s span) first(holds func(n int) bool) int {
	return s.Low + sort.Search(s.High-s.Low+1, func(further int) bool { return holds(s.Low + further) })
}

// part returns the integers of the span for which one condition holds already, and another one, which comes later, not yet.
func (s span) part(already, yet func(n int) bool) span {
	return spanOf(s.first(already), s.first(yet)-1)
}
