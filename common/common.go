// Package common: what the layers of items have in common: see E1 and E2 of doc/05-text.md.
package common

import (
	"slices"

	"springhouse/api"
	"springhouse/item"
)

// Right: what is wrong with an item; nothing is right.
func Right(x api.Item) api.Errno {
	if IsNothing(x) {
		return api.OK
	}
	return item.Check(x)
}

// Check an item that must be nothing, or of a kind.
func Check(x api.Item, kind int) api.Errno {
	if e := Right(x); e != api.OK {
		return e
	}
	if !IsNothing(x) && x.Kind != kind {
		return api.ErrKind
	}
	return api.OK
}

// IsNothing: is that what a key has that is not there?
func IsNothing(x api.Item) bool {
	return x.Kind == 0 && x.Text == "" && len(x.List) == 0 && len(x.Pairs) == 0 && len(x.Scores) == 0
}

// Copy of an item: its lists are new memory.
func Copy(x api.Item) api.Item {
	x.List = slices.Clone(x.List)
	x.Pairs = slices.Clone(x.Pairs)
	x.Scores = slices.Clone(x.Scores)
	return x
}

// CopyStore: a store as new memory.
func CopyStore(s api.Store) api.Store {
	y := api.Store{Slots: slices.Clone(s.Slots), Segments: slices.Clone(s.Segments)}
	for i := range y.Slots {
		y.Slots[i].Item = Copy(y.Slots[i].Item)
	}
	for i := range y.Segments {
		y.Segments[i] = slices.Clone(y.Segments[i])
	}
	return y
}

// IsLong: has a text more bytes than an element, a member, a field or a value may have?
func IsLong(s string) bool { return len(s) > api.MaxBytes }

// IsTime: may a number be a time?
func IsTime(n int) bool { return 0 <= n && n <= api.MaxTime }

// Places of a range in a sequence of n: the first one, and the one behind the last; the same one twice, if there are none.
func Places(n, from, to int) (first, behind int) {
	first = max(fromEnd(n, from), 0)
	last := min(fromEnd(n, to), n-1)
	if first > last {
		return 0, 0
	}
	return first, last + 1
}

// fromEnd answers a place from the beginning, if it is told from the end.
func fromEnd(n, place int) int {
	if place < 0 {
		return n + place
	}
	return place
}
