// Package reply: replies: see doc/01-reply.md.
package reply

import (
	"strconv"
	"strings"

	"springhouse/api"
	"springhouse/digits"
	"springhouse/scan"
)

const lineEnd = "\r\n"

// Check a reply.
func Check(r api.Reply) api.Errno {
	if r.Kind != api.ReplyList {
		return checkSingle(r)
	}
	if r.Text != "" || r.N != 0 {
		return api.ErrForm
	}
	if len(r.List) > api.MaxList {
		return api.ErrMany
	}
	for _, x := range r.List {
		if e := checkSingle(x); e != api.OK {
			return e
		}
	}
	return api.OK
}

// checkSingle checks a reply where no list may stand: a list is of no kind there.
func checkSingle(r api.Reply) api.Errno {
	if r.Kind < api.ReplyText || r.Kind > api.ReplyNone {
		return api.ErrKind
	}
	if hasOther(r) {
		return api.ErrForm
	}
	switch r.Kind {
	case api.ReplyText:
		return checkWord(r.Text)
	case api.ReplyError:
		return checkRange(r.N, int(api.ErrForm), int(api.ErrShort))
	case api.ReplyNumber:
		return checkRange(r.N, -api.MaxInt, api.MaxInt)
	case api.ReplyBytes:
		if len(r.Text) > api.MaxBytes {
			return api.ErrMany
		}
	}
	return api.OK
}

// hasOther: has a reply that is no list something that its kind does not name?
func hasOther(r api.Reply) bool {
	text := r.Kind == api.ReplyText || r.Kind == api.ReplyBytes
	number := r.Kind == api.ReplyError || r.Kind == api.ReplyNumber
	return !text && r.Text != "" || !number && r.N != 0 || len(r.List) > 0
}

func checkWord(s string) api.Errno {
	if len(s) > api.MaxWord {
		return api.ErrMany
	}
	if s == "" {
		return api.ErrForm
	}
	for i := range len(s) {
		if !ofWord(s[i]) {
			return api.ErrForm
		}
	}
	return api.OK
}

func ofWord(c byte) bool {
	return 'a' <= c && c <= 'z' || 'A' <= c && c <= 'Z' || '0' <= c && c <= '9' || c == ' '
}

func checkRange(n, least, most int) api.Errno {
	if n < least || n > most {
		return api.ErrRange
	}
	return api.OK
}

// Encode a reply.
func Encode(r api.Reply) (string, api.Errno) {
	if e := Check(r); e != api.OK {
		return "", e
	}
	if r.Kind != api.ReplyList {
		return encodeSingle(r), api.OK
	}
	var b strings.Builder
	b.WriteString("*" + strconv.Itoa(len(r.List)) + lineEnd)
	for _, x := range r.List {
		b.WriteString(encodeSingle(x))
	}
	return b.String(), api.OK
}

func encodeSingle(r api.Reply) string {
	switch r.Kind {
	case api.ReplyText:
		return "+" + r.Text + lineEnd
	case api.ReplyError:
		return "-" + strconv.Itoa(r.N) + lineEnd
	case api.ReplyNumber:
		return ":" + strconv.Itoa(r.N) + lineEnd
	case api.ReplyBytes:
		return "$" + strconv.Itoa(len(r.Text)) + lineEnd + r.Text + lineEnd
	}
	return "$-1" + lineEnd
}

// Decode bytes.
func Decode(s string) (api.Reply, api.Errno) {
	var r api.Reply
	e := scan.Run(func() { r = decodeAll(scan.Over(s)) })
	if e != api.OK {
		return api.Reply{}, api.ErrForm // bytes that must come yet never come here
	}
	if e := Check(r); e != api.OK {
		return api.Reply{}, e
	}
	return r, api.OK
}

func decodeAll(w *scan.Walk) api.Reply {
	var r api.Reply
	if sign := w.Next(); sign == '*' {
		r = decodeList(w)
	} else {
		r = decodeSingle(w, sign)
	}
	if !w.Done() {
		scan.GiveUp(api.ErrForm)
	}
	return r
}

func decodeList(w *scan.Walk) api.Reply {
	r := api.Reply{Kind: api.ReplyList}
	n := number(w)
	if n < 0 {
		scan.GiveUp(api.ErrForm)
	}
	for range n {
		r.List = append(r.List, decodeSingle(w, w.Next()))
	}
	return r
}

// decodeSingle decodes what stands behind its first byte; a list gives up.
func decodeSingle(w *scan.Walk, sign byte) api.Reply {
	switch sign {
	case '+':
		return api.Reply{Kind: api.ReplyText, Text: line(w)}
	case '-':
		return api.Reply{Kind: api.ReplyError, N: number(w)}
	case ':':
		return api.Reply{Kind: api.ReplyNumber, N: number(w)}
	case '$':
		return decodeBytes(w)
	}
	scan.GiveUp(api.ErrForm)
	return api.Reply{}
}

func decodeBytes(w *scan.Walk) api.Reply {
	n := number(w)
	if n == -1 {
		return api.Reply{Kind: api.ReplyNone}
	}
	if n < 0 {
		scan.GiveUp(api.ErrForm)
	}
	r := api.Reply{Kind: api.ReplyBytes, Text: w.Take(n)}
	w.Must('\r', '\n')
	return r
}

// line answers the bytes ahead of a line's end, and goes behind it.
func line(w *scan.Walk) string {
	s := w.Till(func(left string) bool { return strings.HasPrefix(left, lineEnd) })
	w.Must('\r', '\n')
	return s
}

// number answers the number that a line is.
func number(w *scan.Walk) int {
	n, ok := digits.Number(line(w))
	if !ok {
		scan.GiveUp(api.ErrForm)
	}
	return n
}
