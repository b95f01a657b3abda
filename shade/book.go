package shade

import (
	"iter"

	"griffe/api"
)

// book is the book of one lot, and how far its scales are wrong at most.
type book struct {
	grams, scale int
	entries      []api.ShadeEntry
}

// said returns what an entry can truly have been, by what the scales said.
func (b book) said(entry api.ShadeEntry) span {
	return spanOf(max(0, entry.Grams-b.scale), entry.Grams+b.scale)
}

// after returns what can be left after an entry, if there were so many grams before it.
func (b book) after(entry api.ShadeEntry, before span) span {
	switch entry.Kind {
	case api.ShadeOut:
		return before.less(b.said(entry))
	case api.ShadeBack:
		return before.plus(b.said(entry))
	}
	return before.within(b.said(entry))
}

// before returns how many grams there can have been before an entry, if so many are left after it.
func (b book) before(entry api.ShadeEntry, after span) span {
	switch entry.Kind {
	case api.ShadeOut:
		return after.plus(b.said(entry))
	case api.ShadeBack:
		return after.less(b.said(entry))
	}
	return after.within(b.said(entry))
}

// between returns what an entry can have been, if there were so many grams before it and so many are left after it.
func (b book) between(entry api.ShadeEntry, before, after span) span {
	switch entry.Kind {
	case api.ShadeOut:
		return before.less(after).within(b.said(entry))
	case api.ShadeBack:
		return after.less(before).within(b.said(entry))
	}
	return before.within(after)
}

// lefts returns how many grams there can be before the first entry and after each one, over all truths of the entries up to it. It ends before the first entry with which there are no truths.
func (b book) lefts() []span {
	lefts := []span{spanOf(b.grams, b.grams)}
	for at, entry := range b.entries {
		left := b.after(entry, lefts[at])
		if left.isEmpty() {
			break
		}
		lefts = append(lefts, left)
	}
	return lefts
}

// isTrue tells whether the book has a truth.
func (b book) isTrue() bool { return len(b.lefts()) > len(b.entries) }

// fromLast yields the entries from the last one on, with their numbers.
func (b book) fromLast() iter.Seq2[int, api.ShadeEntry] {
	return func(yield func(int, api.ShadeEntry) bool) {
		for at := len(b.entries) - 1; at >= 0; at-- {
			if !yield(at, b.entries[at]) {
				return
			}
		}
	}
}

// was returns what an entry of a book that has a truth can have been. Entries that come later tell what there can have been, too: from the last one on, of what there can be after an entry only that is kept from which the later ones can go on.
func (b book) was(number int) span {
	lefts := b.lefts()
	after := lefts[len(b.entries)]
	for at, entry := range b.fromLast() {
		before := lefts[at].within(b.before(entry, after))
		if at == number {
			return b.between(entry, before, after)
		}
		after = before
	}
	return after
}

// span is all integers from Low to High. It is empty if High is below Low.
type span struct{ api.Span }

func spanOf(low, high int) span { return span{api.Span{Low: low, High: high}} }

func (s span) isEmpty() bool { return s.High < s.Low }

// within returns what is in both of two spans.
func (s span) within(other span) span {
	return spanOf(max(s.Low, other.Low), min(s.High, other.High))
}

// plus returns what an integer of a span can be, with one of another span added to it.
func (s span) plus(other span) span { return spanOf(s.Low+other.Low, s.High+other.High) }

// less returns what an integer of a span can be, with one of another span taken from it, if that is not below 0.
func (s span) less(other span) span {
	return spanOf(max(0, s.Low-other.High), s.High-other.Low)
}
