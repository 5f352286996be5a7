package feed_test

import (
	"reflect"
	"slices"
	"strings"
	"testing"

	"springhouse/api"
	"springhouse/feed"
)

const ping = "*1\r\n$4\r\nping\r\n"

func long(n int) string { return strings.Repeat("w", n) }

func TestB1Words(t *testing.T) {
	for _, c := range []struct {
		name string
		l    []string
		s    string
		e    api.Errno
	}{
		{"one", []string{"ping"}, ping, api.OK},
		{"an empty one", []string{""}, "*1\r\n$0\r\n\r\n", api.OK},
		{"any bytes", []string{"get", "a\r\n", "\x00\xff"}, "*3\r\n$3\r\nget\r\n$3\r\na\r\n\r\n$2\r\n\x00\xff\r\n", api.OK},
		{"twelve", make([]string, 12), "*12\r\n" + strings.Repeat("$0\r\n\r\n", 12), api.OK},
		{"sixty bytes", []string{long(60)}, "*1\r\n$60\r\n" + long(60) + "\r\n", api.OK},
		{"nil", nil, "", api.ErrForm},
		{"none", []string{}, "", api.ErrForm},
		{"thirteen", make([]string, 13), "", api.ErrMany},
		{"very many", make([]string, 400), "", api.ErrMany},
		{"a byte too many", []string{long(61)}, "", api.ErrMany},
		{"a byte too many in the last one", append(make([]string, 11), long(61)), "", api.ErrMany},
	} {
		if s, e := feed.Words(c.l); s != c.s || e != c.e {
			t.Errorf("%s: %q %d, want %q %d", c.name, s, e, c.s, c.e)
		}
	}
}

func TestB2WholeCommandsInOrder(t *testing.T) {
	want := [][]string{{"set", "a", "\r\n*1"}, {""}, {"ping"}, make([]string, 12), {long(60), "*", "$0"}}
	s := stream(t, want)
	if l, rest, e := feed.Feed("", s); !reflect.DeepEqual(l, want) || rest != "" || e != api.OK {
		t.Errorf("%q %q %d", l, rest, e)
	}
	if l, rest, e := feed.Feed(s, ""); !reflect.DeepEqual(l, want) || rest != "" || e != api.OK {
		t.Errorf("all waits: %q %q %d", l, rest, e)
	}
	if l, rest, e := feed.Feed("", ""); len(l) != 0 || rest != "" || e != api.OK {
		t.Errorf("no bytes: %q %q %d", l, rest, e)
	}
}

func TestB2BytesThatAreLeft(t *testing.T) {
	for _, s := range []string{
		"", "*", "*1", "*9", "*1\r", "*1\r\n", "*12", "*12\r\n",
		"*1\r\n$", "*1\r\n$0", "*1\r\n$6", "*1\r\n$60", "*1\r\n$60\r", "*1\r\n$60\r\n", "*1\r\n$60\r\n" + long(59),
		"*1\r\n$0\r\n", "*1\r\n$0\r\n\r", "*1\r\n$1\r\na", "*1\r\n$1\r\na\r", "*1\r\n$1\r\n\r", "*1\r\n$2\r\n\r\n",
		"*2\r\n$1\r\na\r\n", "*2\r\n$1\r\na\r\n$", "*2\r\n$1\r\na\r\n$1\r\nb\r",
	} {
		l, rest, e := feed.Feed(ping, s)
		if !reflect.DeepEqual(l, [][]string{{"ping"}}) || rest != s || e != api.OK {
			t.Errorf("%q: %q %q %d", s, l, rest, e)
		}
	}
}

func TestB2Errors(t *testing.T) {
	for _, c := range []struct {
		s    string
		want api.Errno
	}{
		{"x", api.ErrForm},
		{"\r\n", api.ErrForm},
		{"$4\r\nping\r\n", api.ErrForm},
		{"ping\r\n", api.ErrForm},
		{"*\r\n", api.ErrForm},
		{"*x", api.ErrForm},
		{"*-1\r\n", api.ErrForm},
		{"*+1\r\n", api.ErrForm},
		{"* 1\r\n", api.ErrForm},
		{"*1 ", api.ErrForm},
		{"*1\n", api.ErrForm},
		{"*1\rx", api.ErrForm},
		{"*1\r\r", api.ErrForm},
		{"*0", api.ErrForm}, // whatever comes behind it, it is no command
		{"*0\r\n", api.ErrForm},
		{"*00\r\n", api.ErrForm},
		{"*01", api.ErrForm},
		{"*013", api.ErrForm},
		{"*13", api.ErrMany},
		{"*13\r\n", api.ErrMany},
		{"*13x", api.ErrMany},
		{"*20", api.ErrMany},
		{"*99999999999999999999999999", api.ErrMany},
		{"*12x", api.ErrForm},
		{"*1\r\n*", api.ErrForm},
		{"*1\r\nping", api.ErrForm},
		{"*1\r\n$\r\n", api.ErrForm},
		{"*1\r\n$-1\r\n", api.ErrForm},
		{"*1\r\n$x", api.ErrForm},
		{"*1\r\n$00", api.ErrForm},
		{"*1\r\n$01", api.ErrForm},
		{"*1\r\n$061", api.ErrForm},
		{"*1\r\n$61", api.ErrMany},
		{"*1\r\n$100", api.ErrMany},
		{"*1\r\n$99999999999999999999999999", api.ErrMany},
		{"*1\r\n$60x", api.ErrForm},
		{"*1\r\n$1\rx", api.ErrForm},
		{"*1\r\n$1\n", api.ErrForm},
		{"*1\r\n$0\r\nx", api.ErrForm},
		{"*1\r\n$0\r\n\r\r", api.ErrForm},
		{"*1\r\n$1\r\nab", api.ErrForm},
		{"*1\r\n$1\r\na\n", api.ErrForm},
		{"*1\r\n$1\r\na\rx", api.ErrForm},
		{"*2\r\n$1\r\na\r\n*", api.ErrForm},
		{"*2\r\n$1\r\na\r\n$61", api.ErrMany},
		// The first error tells, and commands behind it are none.
		{"x*13" + ping, api.ErrForm},
		{"*13x" + ping, api.ErrMany},
		{"*0\r\n" + ping, api.ErrForm},
	} {
		want := [][]string{{"ping"}, {"ping"}}
		for n := range len(c.s) + 1 {
			l, rest, e := feed.Feed(ping+ping+c.s[:n], c.s[n:])
			if !reflect.DeepEqual(l, want) || rest != "" || e != c.want {
				t.Errorf("%q at %d: %q %q %d, want %d", c.s, n, l, rest, e, c.want)
			}
		}
		if l, rest, e := feed.Feed("", c.s); len(l) != 0 || rest != "" || e != c.want {
			t.Errorf("%q alone: %q %q %d, want %d", c.s, l, rest, e, c.want)
		}
	}
}

// TestB2AsSoonAsBytesShowIt: bytes wait just if some bytes behind them make a command of them.
func TestB2AsSoonAsBytesShowIt(t *testing.T) {
	const signs = "*$\r\n0126x"
	var each func(s string)
	each = func(s string) {
		l, rest, e := feed.Feed("", s)
		switch {
		case e != api.OK:
			if rest != "" || len(l) != 0 {
				t.Errorf("%q: %q %q %d", s, l, rest, e)
			}
			return // a text that begins with a wrong one is not looked at
		case rest != s || len(l) != 0:
			t.Errorf("%q: %q %q", s, l, rest)
		case !canEnd(s):
			t.Errorf("%q waits, and nothing makes it whole", s)
		}
		if len(s) < 9 {
			for _, x := range []byte(signs) {
				each(s + string([]byte{x}))
			}
		}
	}
	each("")
}

// canEnd: do some bytes make a whole command of s? The first one that may come is always as good as any other.
func canEnd(s string) bool {
	const signs = "\r\n$*01"
	for range api.MaxWhole {
		i := strings.IndexFunc(signs, func(c rune) bool {
			_, _, e := feed.Feed(s, string(c))
			return e == api.OK
		})
		if i < 0 {
			return false
		}
		l, rest, _ := feed.Feed(s, signs[i:i+1])
		if len(l) == 1 {
			return rest == ""
		}
		s += signs[i : i+1]
	}
	return false
}

func TestB3InWhateverPieces(t *testing.T) {
	commands := [][]string{{"set", "a", "\r\n*1"}, {"", "$2"}, {"ping"}, {long(60)}, make([]string, 12)}
	whole := stream(t, commands)
	for _, end := range []string{"", "*3\r\n$1\r\na\r\n$", "*0\r\n", "*13\r\n", "*1\r\n$1\r\nab", "?"} {
		s := whole + end
		l, rest, e := feed.Feed("", s)
		if !reflect.DeepEqual(l, commands) {
			t.Fatalf("%q: %q", s, l)
		}
		for size := 1; size <= len(s); size++ {
			m, left, f := inPieces(s, size)
			if !reflect.DeepEqual(m, l) || left != rest || f != e {
				t.Errorf("%q in pieces of %d: %q %q %d, want %q %q %d", s, size, m, left, f, l, rest, e)
			}
		}
	}
}

// inPieces feeds a stream piece by piece, up to the first error.
func inPieces(s string, size int) ([][]string, string, api.Errno) {
	var all [][]string
	rest := ""
	for piece := range slices.Chunk([]byte(s), size) {
		l, left, e := feed.Feed(rest, string(piece))
		all = append(all, l...)
		rest = left
		if e != api.OK {
			return all, rest, e
		}
	}
	return all, rest, api.OK
}

// TestP1AnyBytes: whatever byte stands in the place of another, or is too many, or is missing, the call ends, and what it answers is made of commands.
func TestP1AnyBytes(t *testing.T) {
	s := stream(t, [][]string{{"set", "a", "\r\n*1"}, {"ping"}})
	look := func(s string) {
		l, rest, e := feed.Feed("", s)
		back := ""
		for _, words := range l {
			b, f := feed.Words(words)
			if f != api.OK {
				t.Errorf("%q: %q is no command", s, words)
			}
			back += b
		}
		if e != api.OK && rest != "" {
			t.Errorf("%q: %q is left with %d", s, rest, e)
		}
		if e == api.OK && back+rest != s || !strings.HasPrefix(s, back) {
			t.Errorf("%q: %q %q", s, l, rest)
		}
	}
	for i := range len(s) {
		look(s[:i] + s[i+1:])
		for c := range 256 {
			x := string([]byte{byte(c)})
			look(s[:i] + x + s[i+1:])
			look(s[:i] + x + s[i:])
		}
	}
}

func TestP2WhatIsHandedInIsOnlyRead(t *testing.T) {
	room := []string{"get", "a", "spare", "room"}
	s, e := feed.Words(room[:2])
	if !slices.Equal(room, []string{"get", "a", "spare", "room"}) {
		t.Errorf("the list is %q then", room)
	}
	room[0] = "other"
	if s != "*2\r\n$3\r\nget\r\n$1\r\na\r\n" || e != api.OK {
		t.Errorf("%q %d", s, e)
	}
}

func TestP2ListsOfAnAnswerShareNoMemory(t *testing.T) {
	s := stream(t, [][]string{{"a", "b", "c"}, {"d"}, {"e", "f"}})
	l, _, _ := feed.Feed("", s)
	for i := range l {
		was := slices.Clone(l)
		for j := range was {
			was[j] = slices.Clone(l[j])
		}
		grown := append(l[i], "x", "y", "z")
		grown[0] = "w"
		l[i][0] = "v"
		for j := range l {
			if j != i && !slices.Equal(l[j], was[j]) {
				t.Errorf("list %d is %q with %d", j, l[j], i)
			}
		}
	}
	if again, _, _ := feed.Feed("", s); !reflect.DeepEqual(again, [][]string{{"a", "b", "c"}, {"d"}, {"e", "f"}}) {
		t.Errorf("a later call answers %q", again)
	}
}

func stream(t *testing.T, commands [][]string) string {
	t.Helper()
	all := ""
	for _, l := range commands {
		s, e := feed.Words(l)
		if e != api.OK {
			t.Fatalf("%q: %d", l, e)
		}
		all += s
	}
	return all
}
