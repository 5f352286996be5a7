// Package feed: commands out of a stream: see doc/02-feed.md.
package feed

import (
	"strings"

	"springhouse/api"
	"springhouse/reply"
	"springhouse/scan"
)

// Words of a command, as bytes.
func Words(l []string) (string, api.Errno) {
	if len(l) == 0 {
		return "", api.ErrForm
	}
	if len(l) > api.MaxWords {
		return "", api.ErrMany
	}
	// A command has the bytes of a reply that is a list of its words.
	r := api.Reply{Kind: api.ReplyList}
	for _, s := range l {
		r.List = append(r.List, api.Reply{Kind: api.ReplyBytes, Text: s})
	}
	return reply.Encode(r)
}

// Feed a stream.
func Feed(rest, s string) ([][]string, string, api.Errno) {
	stream := rest + s
	w := scan.Over(stream)
	var commands [][]string
	taken := 0
	e := scan.Run(func() {
		for !w.Done() {
			commands = append(commands, command(w))
			taken = w.At()
		}
	})
	if e == api.OK || e == api.ErrShort {
		return commands, strings.Clone(stream[taken:]), api.OK
	}
	return commands, "", e
}

func command(w *scan.Walk) []string {
	w.Must('*')
	var l []string
	for range count(w, 1, api.MaxWords) {
		w.Must('$')
		l = append(l, w.Take(count(w, 0, api.MaxBytes)))
		w.Must('\r', '\n')
	}
	return l
}

// count answers a number of words, or of bytes, and goes behind its line's end. It gives up at the first byte that makes it wrong, whatever comes behind that one.
func count(w *scan.Walk, least, most int) int {
	n := int(w.Want(isDigit) - '0')
	if n < least {
		scan.GiveUp(api.ErrForm) // no digit may stand behind a nought, so it stays one
	}
	for {
		c := w.Want(func(c byte) bool { return c == '\r' || n > 0 && isDigit(c) })
		if c == '\r' {
			break
		}
		n = 10*n + int(c-'0')
		if n > most {
			scan.GiveUp(api.ErrMany)
		}
	}
	w.Must('\n')
	return n
}

func isDigit(c byte) bool { return '0' <= c && c <= '9' }
