// Package digits: whole numbers as texts tell them.
package digits

import (
	"strconv"

	"springhouse/api"
)

// May: may a number stand anywhere at all?
func May(n int) bool { return -api.MaxInt <= n && n <= api.MaxInt }

// Number of a text: the number that it tells. One that would be written otherwise is none: so no noughts ahead, no sign too many.
func Number(s string) (int, bool) {
	n, err := strconv.Atoi(s)
	if err != nil || !May(n) || strconv.Itoa(n) != s {
		return 0, false
	}
	return n, true
}
