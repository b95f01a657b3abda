package seam

import "griffe/api"

// between returns by how much a can gain from one edge to another one.
func (s edges) between(from, to int) api.Span {
	return api.Span{Low: s[to].Low - s[from].Low, High: s[to].High - s[from].High}
}

// match tells whether both lengths surely match at all edges between two marks that leave a truth.
func (s edges) match(from, to, tolerance int) bool {
	if all := s.between(from, to); !areFrom(all.Low, all.High, 0) {
		return false
	}
	for edge := from; edge < to; edge++ {
		if apart(meet(s.between(from, edge), turned(s.between(edge, to)))) > tolerance {
			return false
		}
	}
	return true
}

// matchOn tells whether both lengths surely match at all edges after the last mark.
func (s edges) matchOn(from, tolerance int) bool {
	for edge := from; edge < len(s); edge++ {
		if apart(s.between(from, edge)) > tolerance {
			return false
		}
	}
	return true
}

// next is what follows a mark: how many marks with which the rest surely matches, and the first of them.
type next struct{ marks, edge int }

// marks returns the smallest of the lists of the fewest marks, and false if there is none.
// What is ahead before a mark says nothing about what is after it, so the marks after each edge are found from the last edge on.
func (s edges) marks(tolerance int) ([]int, bool) {
	none := len(s)
	after := make([]next, len(s))
	for from := len(s) - 1; from >= 0; from-- {
		if s.matchOn(from, tolerance) {
			continue
		}
		after[from].marks = none
		for to := from + 1; to < len(s); to++ {
			if marks := 1 + after[to].marks; marks < after[from].marks && s.match(from, to, tolerance) {
				after[from] = next{marks: marks, edge: to}
			}
		}
	}
	if after[0].marks == none {
		return nil, false
	}
	var marks []int
	for n := after[0]; n.marks > 0; n = after[n.edge] {
		marks = append(marks, n.edge)
	}
	return marks, true
}
