// Package scan: walks over bytes that give up where these are not as they must be.
package scan

import (
	"strconv"
	"strings"

	"springhouse/api"
)

// Stop is why a walk gave up.
type Stop struct{ Errno api.Errno }

// Error makes a Stop an error.
func (s Stop) Error() string { return "the walk gave up: " + strconv.Itoa(int(s.Errno)) }

// GiveUp ends the walk that Run began, from however deep inside.
func GiveUp(e api.Errno) { panic(Stop{e}) }

// Run a walk: OK, or why it gave up.
func Run(walk func()) (e api.Errno) {
	defer func() {
		p := recover()
		if p == nil {
			return
		}
		stop, ok := p.(Stop)
		if !ok {
			panic(p) // a fault of the program must not look like a fault of the bytes
		}
		e = stop.Errno
	}()
	walk()
	return api.OK
}

// Walk over bytes, from left to right.
type Walk struct {
	text string
	at   int
}

// Over starts a walk at the first byte.
func Over(s string) *Walk { return &Walk{text: s} }

// Done: is no byte left?
func (w *Walk) Done() bool { return w.at == len(w.text) }

// At tells how many bytes lie behind the walk.
func (w *Walk) At() int { return w.at }

// Left tells the bytes that lie ahead, for one who must look further than the next.
func (w *Walk) Left() string { return w.text[w.at:] }

// Next byte, whichever it is.
func (w *Walk) Next() byte {
	if w.Done() {
		GiveUp(api.ErrShort)
	}
	w.at++
	return w.text[w.at-1]
}

// Want the next byte to be one that may stand there.
func (w *Walk) Want(may func(c byte) bool) byte {
	c := w.Next()
	if !may(c) {
		GiveUp(api.ErrForm)
	}
	return c
}

// Must come next: just these bytes. They are asked one by one, so that a wrong one tells even if others must come yet.
func (w *Walk) Must(want ...byte) {
	for _, c := range want {
		if w.Next() != c {
			GiveUp(api.ErrForm)
		}
	}
}

// Take n bytes, whichever they are.
func (w *Walk) Take(n int) string {
	if n > len(w.text)-w.at {
		GiveUp(api.ErrShort)
	}
	from := w.at
	w.at += n
	// A copy, so that one who keeps a word does not keep the whole stream.
	return strings.Clone(w.text[from:w.at])
}

// Till takes the bytes ahead of the first place where the bytes that are left are what is looked for.
func (w *Walk) Till(found func(left string) bool) string {
	n := 0
	for !found(w.text[w.at+n:]) {
		if w.at+n == len(w.text) {
			GiveUp(api.ErrShort)
		}
		n++
	}
	return w.Take(n)
}
