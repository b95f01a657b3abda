package box

import (
	"slices"

	"griffe/api"
)

// sides is how many sides a loom has.
const sides = 2

// content is what is in a box: a shuttle or a colour by its number, or one of these.
type content int8

const (
	noBox content = iota - 2 // the side has fewer boxes
	empty
)

// boxes is what is in the boxes of both sides.
type boxes [sides][api.MaxBoxBoxes]content

// boxesOf returns the boxes of a loom, with a mark for each shuttle.
func boxesOf(l api.BoxLoom, mark func(shuttle int) content) boxes {
	var b boxes
	for side := range sides {
		for box := range api.MaxBoxBoxes {
			b[side][box] = noBox
			if box < l.Boxes[side] {
				b[side][box] = empty
			}
		}
	}
	for shuttle, s := range l.Shuttles {
		b[s.Side][s.Box] = mark(shuttle)
	}
	return b
}

// shuttleBoxes returns the boxes of a loom with its shuttles.
func shuttleBoxes(l api.BoxLoom) boxes {
	return boxesOf(l, func(shuttle int) content { return content(shuttle) })
}

// colourBoxes returns the boxes of a loom with the colours of its shuttles.
func colourBoxes(l api.BoxLoom) boxes {
	return boxesOf(l, func(shuttle int) content { return content(l.Shuttles[shuttle].Colour) })
}

// laid returns shuttles in the boxes in which they are.
func (b boxes) laid(shuttles []api.BoxShuttle) []api.BoxShuttle {
	laid := slices.Clone(shuttles)
	for side := range sides {
		for box, c := range b[side] {
			if c > empty {
				laid[c].Side, laid[c].Box = side, box
			}
		}
	}
	return laid
}

// throw is a pick that can be thrown: what is thrown, and the boxes after it.
type throw struct {
	pick  api.BoxPick
	what  int
	after boxes
}

// throw returns what a pick does, if it can be thrown.
func (b boxes) throw(p api.BoxPick) (t throw, ok bool) {
	left, right := b[api.BoxLeft][p.Left], b[api.BoxRight][p.Right]
	// Just one of both boxes has a shuttle, and the other one is a box without one.
	if min(left, right) != empty || max(left, right) == empty {
		return throw{}, false
	}
	t = throw{p, int(max(left, right)), b}
	t.after[api.BoxLeft][p.Left], t.after[api.BoxRight][p.Right] = right, left
	return t, true
}

// throws yields the picks that can be thrown, from the smallest one on.
func (b boxes) throws(yield func(throw) bool) {
	for left := range api.MaxBoxBoxes {
		for right := range api.MaxBoxBoxes {
			t, ok := b.throw(api.BoxPick{Left: left, Right: right})
			if ok && !yield(t) {
				return
			}
		}
	}
}

// throwAll returns what picks throw, and the boxes after them, or the number of the first one that cannot be thrown.
func (b boxes) throwAll(picks []api.BoxPick) (what []int, after boxes, at int, ok bool) {
	for at, p := range picks {
		t, ok := b.throw(p)
		if !ok {
			return nil, boxes{}, at, false
		}
		what = append(what, t.what)
		b = t.after
	}
	return what, b, 0, true
}

// apart returns how many box moves there are between two picks.
func apart(a, b api.BoxPick) int {
	return max(a.Left, b.Left) - min(a.Left, b.Left) + max(a.Right, b.Right) - min(a.Right, b.Right)
}
