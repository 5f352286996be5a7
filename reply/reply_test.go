package reply_test

import (
	"reflect"
	"slices"
	"strings"
	"testing"

	"springhouse/api"
	"springhouse/reply"
)

func text(s string) api.Reply             { return api.Reply{Kind: api.ReplyText, Text: s} }
func fault(n int) api.Reply               { return api.Reply{Kind: api.ReplyError, N: n} }
func number(n int) api.Reply              { return api.Reply{Kind: api.ReplyNumber, N: n} }
func blob(s string) api.Reply             { return api.Reply{Kind: api.ReplyBytes, Text: s} }
func none() api.Reply                     { return api.Reply{Kind: api.ReplyNone} }
func list(l ...api.Reply) api.Reply       { return api.Reply{Kind: api.ReplyList, List: l} }
func many(n int, r api.Reply) []api.Reply { return slices.Repeat([]api.Reply{r}, n) }

// good: replies that are right, with their bytes.
func good() []struct {
	r api.Reply
	s string
} {
	return []struct {
		r api.Reply
		s string
	}{
		{text("OK"), "+OK\r\n"},
		{text(" "), "+ \r\n"},
		{text("azAZ09 az"), "+azAZ09 az\r\n"},
		{text(strings.Repeat("w", 20)), "+wwwwwwwwwwwwwwwwwwww\r\n"},
		{fault(1), "-1\r\n"},
		{fault(8), "-8\r\n"},
		{number(0), ":0\r\n"},
		{number(10), ":10\r\n"},
		{number(-7), ":-7\r\n"},
		{number(999999999), ":999999999\r\n"},
		{number(-999999999), ":-999999999\r\n"},
		{blob(""), "$0\r\n\r\n"},
		{blob("a\r\n$1\x00\xff"), "$7\r\na\r\n$1\x00\xff\r\n"},
		{blob(strings.Repeat("b", 60)), "$60\r\n" + strings.Repeat("b", 60) + "\r\n"},
		{none(), "$-1\r\n"},
		{list(), "*0\r\n"},
		{list(none(), blob("x"), number(7), text("OK"), fault(3)), "*5\r\n$-1\r\n$1\r\nx\r\n:7\r\n+OK\r\n-3\r\n"},
		{list(many(300, none())...), "*300\r\n" + strings.Repeat("$-1\r\n", 300)},
	}
}

// bad: replies of which something is wrong.
func bad() []struct {
	name string
	r    api.Reply
	want api.Errno
} {
	deep := list(list(list(none())))
	return []struct {
		name string
		r    api.Reply
		want api.Errno
	}{
		{"no kind", api.Reply{}, api.ErrKind},
		{"a kind too many", api.Reply{Kind: 7}, api.ErrKind},
		{"a kind below 0", api.Reply{Kind: -1}, api.ErrKind},
		{"no kind, and something there: the kind first", api.Reply{Text: "x", N: 1, List: []api.Reply{{}}}, api.ErrKind},

		{"text with a number", api.Reply{Kind: api.ReplyText, Text: "x", N: 1}, api.ErrForm},
		{"text with a list", api.Reply{Kind: api.ReplyText, Text: "x", List: many(1, none())}, api.ErrForm},
		{"error with a text", api.Reply{Kind: api.ReplyError, N: 1, Text: "x"}, api.ErrForm},
		{"error with a list", api.Reply{Kind: api.ReplyError, N: 1, List: many(1, none())}, api.ErrForm},
		{"number with a text", api.Reply{Kind: api.ReplyNumber, Text: "x"}, api.ErrForm},
		{"number with a list", api.Reply{Kind: api.ReplyNumber, List: many(1, none())}, api.ErrForm},
		{"bytes with a number", api.Reply{Kind: api.ReplyBytes, N: -1}, api.ErrForm},
		{"bytes with a list", api.Reply{Kind: api.ReplyBytes, List: many(1, none())}, api.ErrForm},
		{"none with a text", api.Reply{Kind: api.ReplyNone, Text: "x"}, api.ErrForm},
		{"none with a number", api.Reply{Kind: api.ReplyNone, N: 1}, api.ErrForm},
		{"none with a list", api.Reply{Kind: api.ReplyNone, List: many(1, none())}, api.ErrForm},
		{"list with a text", api.Reply{Kind: api.ReplyList, Text: "x"}, api.ErrForm},
		{"list with a number", api.Reply{Kind: api.ReplyList, N: 1}, api.ErrForm},

		{"something there ahead of too many bytes of a word", api.Reply{Kind: api.ReplyText, Text: strings.Repeat("w", 21), N: 1}, api.ErrForm},
		{"something there ahead of a number's range", api.Reply{Kind: api.ReplyError, N: 9, Text: "x"}, api.ErrForm},
		{"something there ahead of too many bytes", api.Reply{Kind: api.ReplyBytes, Text: strings.Repeat("b", 61), N: 1}, api.ErrForm},
		{"something there ahead of too many replies", api.Reply{Kind: api.ReplyList, N: 1, List: many(301, none())}, api.ErrForm},

		{"an empty word", text(""), api.ErrForm},
		{"a word too long", text(strings.Repeat("w", 21)), api.ErrMany},
		{"a word too long, of wrong bytes: too many first", text(strings.Repeat("?", 21)), api.ErrMany},
		{"a word with a line's end", text("a\r\n"), api.ErrForm},
		{"a word with a tab", text("a\tb"), api.ErrForm},

		{"error 0", fault(0), api.ErrRange},
		{"error 9", fault(9), api.ErrRange},
		{"error below 0", fault(-1), api.ErrRange},
		{"a number too great", number(1000000000), api.ErrRange},
		{"a number too small", number(-1000000000), api.ErrRange},
		{"bytes too many", blob(strings.Repeat("b", 61)), api.ErrMany},

		{"replies too many", list(many(301, none())...), api.ErrMany},
		{"replies too many, and wrong ones: too many first", list(many(301, api.Reply{})...), api.ErrMany},
		{"a list in a list", list(list()), api.ErrKind},
		{"a list in a list, with a text: the kind first", list(api.Reply{Kind: api.ReplyList, Text: "x"}), api.ErrKind},
		{"a list in a list in a list", deep, api.ErrKind},
		{"no kind in a list", list(none(), api.Reply{}), api.ErrKind},
		{"a wrong one in a list", list(number(1), fault(9)), api.ErrRange},
		{"the first wrong one in a list tells", list(none(), fault(0), list(), text("")), api.ErrRange},
		{"the first wrong one in a list tells, a list here", list(none(), list(), fault(0)), api.ErrKind},
	}
}

func TestA1CheckOfRightReplies(t *testing.T) {
	for _, c := range good() {
		if e := reply.Check(c.r); e != api.OK {
			t.Errorf("%q: %d", c.s, e)
		}
	}
}

func TestA1CheckOfWrongReplies(t *testing.T) {
	for _, c := range bad() {
		if e := reply.Check(c.r); e != c.want {
			t.Errorf("%s: %d, want %d", c.name, e, c.want)
		}
	}
}

func TestA1BytesOfAWord(t *testing.T) {
	const may = "abcdefghijklmnopqrstuvwxyzABCDEFGHIJKLMNOPQRSTUVWXYZ0123456789 "
	for c := range 256 {
		want := api.ErrForm
		if strings.IndexByte(may, byte(c)) >= 0 {
			want = api.OK
		}
		for _, s := range []string{string([]byte{byte(c)}), string([]byte{'a', byte(c), 'b'})} {
			if e := reply.Check(text(s)); e != want {
				t.Errorf("%q: %d, want %d", s, e, want)
			}
		}
	}
}

func TestA1AnEmptyListIsNothing(t *testing.T) {
	for _, r := range []api.Reply{text("x"), fault(1), number(0), blob(""), none(), list()} {
		for _, l := range [][]api.Reply{nil, {}, make([]api.Reply, 0, 3)} {
			r.List = l
			if e := reply.Check(r); e != api.OK {
				t.Errorf("kind %d: %d", r.Kind, e)
			}
		}
	}
}

func TestA2Encode(t *testing.T) {
	for _, c := range good() {
		if s, e := reply.Encode(c.r); s != c.s || e != api.OK {
			t.Errorf("%q %d, want %q", s, e, c.s)
		}
	}
	for _, c := range bad() {
		if s, e := reply.Encode(c.r); s != "" || e != c.want {
			t.Errorf("%s: %q %d, want %d", c.name, s, e, c.want)
		}
	}
}

func TestA2Decode(t *testing.T) {
	for _, c := range good() {
		if r, e := reply.Decode(c.s); !same(r, c.r) || e != api.OK {
			t.Errorf("%q: %v %d", c.s, r, e)
		}
	}
}

func TestA2DecodeOfNoReply(t *testing.T) {
	for _, s := range []string{
		"", "\r\n", "OK\r\n", "?1\r\n", " +OK\r\n",
		"+", "+\r\n", "+OK", "+OK\r", "+OK\n", "+OK\r\n+", "+OK\r\n\r\n", "+a\rb\r\n", "+a\nb\r\n", "+a\r\nb\r\n", "+a-b\r\n",
		"+" + strings.Repeat("w", 30) + "\r\nx\r\n",
		"-", "-\r\n", "-01\r\n", "-1", "-1x\r\n", "-+1\r\n", "- 1\r\n", "-1000000000\r\n",
		":", ":\r\n", ":-\r\n", ":-0\r\n", ":00\r\n", ":05\r\n", ":-05\r\n", ":+5\r\n", ":5 \r\n", ": 5\r\n", ":0x5\r\n", ":1_0\r\n", ":--5\r\n",
		":1000000000\r\n", ":-1000000000\r\n", ":99999999999999999999999\r\n", ":7", ":7\r", ":7\n",
		"$", "$\r\n", "$-1", "$-1\r\n\r\n", "$-2\r\n", "$-0\r\n\r\n", "$00\r\n\r\n", "$01\r\nx\r\n", "$0\r\n", "$0\r\n\r", "$0\r\nx\r\n",
		"$1\r\n\r\n", "$1\r\nab\r\n", "$1\r\na", "$1\r\na\r", "$1\r\na\n\r", "$2\r\na\r\n", "$999999999\r\nx\r\n", "$1000000000\r\n",
		"*", "*\r\n", "*-1\r\n", "*-0\r\n", "*00\r\n", "*1\r\n", "*1\r\n:7", "*1\r\n:7\r\n:8\r\n", "*0\r\n\r\n", "*2\r\n:7\r\n", "*1\r\n?\r\n",
		"*1\r\n*0\r\n", "*2\r\n:7\r\n*1\r\n:7\r\n", "*999999999\r\n", "*999999999\r\n:7\r\n", "*1000000000\r\n",
	} {
		if r, e := reply.Decode(s); !reflect.DeepEqual(r, api.Reply{}) || e != api.ErrForm {
			t.Errorf("%q: %v %d", s, r, e)
		}
	}
}

func TestA2DecodeOfAWrongReply(t *testing.T) {
	for _, c := range []struct {
		s    string
		want api.Errno
	}{
		{"-0\r\n", api.ErrRange},
		{"-9\r\n", api.ErrRange},
		{"-999999999\r\n", api.ErrRange},
		{"--1\r\n", api.ErrRange},
		{"+" + strings.Repeat("w", 21) + "\r\n", api.ErrMany},
		{"+" + strings.Repeat("?", 21) + "\r\n", api.ErrMany},
		{"$61\r\n" + strings.Repeat("b", 61) + "\r\n", api.ErrMany},
		{"*301\r\n" + strings.Repeat(":7\r\n", 301), api.ErrMany},
		{"*301\r\n" + strings.Repeat("-9\r\n", 301), api.ErrMany},
		{"*2\r\n-9\r\n$61\r\n" + strings.Repeat("b", 61) + "\r\n", api.ErrRange},
		{"*2\r\n$61\r\n" + strings.Repeat("b", 61) + "\r\n-9\r\n", api.ErrMany},
		// What is no reply at all tells ahead of what Check says.
		{"*2\r\n-9\r\n", api.ErrForm},
		{"*2\r\n-9\r\n*0\r\n", api.ErrForm},
		{"-9\r\nx", api.ErrForm},
		{"*301\r\n" + strings.Repeat(":7\r\n", 300), api.ErrForm},
	} {
		if r, e := reply.Decode(c.s); !reflect.DeepEqual(r, api.Reply{}) || e != c.want {
			t.Errorf("%.30q: %v %d, want %d", c.s, r, e, c.want)
		}
	}
}

// TestA3NothingElseIsDecoded: what bytes near right ones are decoded to has just these bytes; and no call panics on them.
func TestA3NothingElseIsDecoded(t *testing.T) {
	decoded := 0
	look := func(s string) {
		r, e := reply.Decode(s)
		if e != api.OK {
			if !reflect.DeepEqual(r, api.Reply{}) {
				t.Errorf("%q: %v with %d", s, r, e)
			}
			return
		}
		decoded++
		if back, e := reply.Encode(r); back != s || e != api.OK {
			t.Errorf("%q is decoded, and encoded as %q, %d", s, back, e)
		}
	}
	const signs = "\r\n+-:$*019a \x00\xff"
	for _, c := range good() {
		s := c.s[:min(len(c.s), 80)]
		for i := range len(s) + 1 {
			look(s[:i])
			for _, x := range []byte(signs) {
				look(s[:i] + string([]byte{x}) + s[i:])
				if i < len(s) {
					look(s[:i] + string([]byte{x}) + s[i+1:])
				}
			}
			if i < len(s) {
				look(s[:i] + s[i+1:])
			}
		}
	}
	if decoded < 100 {
		t.Errorf("only %d texts were decoded", decoded)
	}
}

func TestA3AllShortTexts(t *testing.T) {
	right := map[string]bool{"*0\r\n": true, "+0\r\n": true, "+1\r\n": true, "-1\r\n": true, ":0\r\n": true, ":1\r\n": true}
	const signs = "\r\n+-:$*01"
	var each func(s string)
	each = func(s string) {
		if _, e := reply.Decode(s); (e == api.OK) != right[s] {
			t.Errorf("%q: %d", s, e)
		}
		if len(s) < 4 {
			for _, x := range []byte(signs) {
				each(s + string([]byte{x}))
			}
		}
	}
	each("")
}

func TestP2WhatIsHandedInIsOnlyRead(t *testing.T) {
	room := []api.Reply{number(1), blob("x"), text("spare"), fault(9)}
	was := slices.Clone(room)
	r := list(room[:2]...)
	reply.Check(r)
	s, e := reply.Encode(r)
	if !reflect.DeepEqual(room, was) {
		t.Errorf("the list is %v then", room)
	}
	room[0] = number(2)
	if s != "*2\r\n:1\r\n$1\r\nx\r\n" || e != api.OK {
		t.Errorf("%q %d", s, e)
	}
}

func TestP2AnAnswerIsTheCallers(t *testing.T) {
	const s = "*2\r\n:1\r\n:2\r\n"
	one, _ := reply.Decode(s)
	one.List[0].N = 9
	one.List = append(one.List, none())
	two, e := reply.Decode(s)
	if !same(two, list(number(1), number(2))) || e != api.OK {
		t.Errorf("%v %d", two, e)
	}
}

// same: an empty list may be nil or not.
func same(a, b api.Reply) bool {
	return a.Kind == b.Kind && a.Text == b.Text && a.N == b.N && slices.EqualFunc(a.List, b.List, same)
}
