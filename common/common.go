// Package common: what the layers of items have in common: see E1 and E2 of doc/05-text.md.
package common

import (
	"springhouse/api"
	"springhouse/item"
)

// Check an item that must be nothing, or of a kind.
func Check(x api.Item, kind int) api.Errno {
	if isNothing(x) {
		return api.OK
	}
	if e := item.Check(x); e != api.OK {
		return e
	}
	if x.Kind != kind {
		return api.ErrKind
	}
	return api.OK
}

// isNothing: is that what a key has that is not there?
func isNothing(x api.Item) bool {
	return x.Kind == 0 && x.Text == "" && len(x.List) == 0 && len(x.Pairs) == 0 && len(x.Scores) == 0
}

// IsLong: has a text more bytes than an element, a member, a field or a value may have?
func IsLong(s string) bool { return len(s) > api.MaxBytes }

// Places of a range in a sequence of n: the first one, and the one behind the last; the same one twice, if there are none.
func Places(n, from, to int) (first, behind int) {
	first = max(fromEnd(n, from), 0)
	last := min(fromEnd(n, to), n-1)
	if first > last {
		return 0, 0
	}
	return first, last + 1
}

// fromEnd answers a place from the beginning, if it is told from the end.
func fromEnd(n, place int) int {
	if place < 0 {
		return n + place
	}
	return place
}
