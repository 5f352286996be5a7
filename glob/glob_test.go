package glob_test

import (
	"math/rand"
	"slices"
	"strings"
	"testing"

	"springhouse/api"
	"springhouse/glob"
)

// bytesOf: which single bytes a pattern matches.
func bytesOf(t *testing.T, p string) string {
	t.Helper()
	var out []byte
	for c := range 256 {
		s := string([]byte{byte(c)})
		ok, e := glob.Match(p, s)
		if e != api.OK {
			t.Errorf("%q and %q: %d", p, s, e)
		}
		if ok {
			out = append(out, byte(c))
		}
	}
	return string(out)
}

// span of bytes, both ends too.
func span(least, most int) string {
	var out []byte
	for c := least; c <= most; c++ {
		out = append(out, byte(c))
	}
	return string(out)
}

// but: all bytes but some.
func but(some string) string {
	return string(slices.DeleteFunc([]byte(span(0, 255)), func(c byte) bool { return strings.IndexByte(some, c) >= 0 }))
}

func TestC1PartsOfOneByte(t *testing.T) {
	for _, c := range []struct{ pattern, want string }{
		{"a", "a"},
		{"]", "]"},
		{"-", "-"},
		{"^", "^"},
		{"\x00", "\x00"},
		{"\xff", "\xff"},
		{"?", span(0, 255)},
		{`\*`, "*"},
		{`\?`, "?"},
		{`\[`, "["},
		{`\]`, "]"},
		{`\\`, `\`},
		{`\a`, "a"},
		{"\\\xff", "\xff"},

		{"[a]", "a"},
		{"[ca]", "ac"},
		{"[aa]", "a"},
		{"[a-c]", "abc"},
		{"[a-a]", "a"},
		{"[a-cx-z]", "abcxyz"},
		{"[c-da-b_]", "_abcd"},
		{"[\x00-\xff]", span(0, 255)},
		{"[\x01-\xfe]", span(1, 254)},

		{"[a-]", "-a"},
		{"[-a]", "-a"},
		{"[-]", "-"},
		{"[--]", "-"},
		{"[---]", "-"},
		{"[--a]", span('-', 'a')},
		{"[+--]", "+,-"},
		{"[a-b-c]", "-abc"},
		{"[a-b-]", "-ab"},
		{"[a-c-e-g]", "-abcefg"},

		{"[*]", "*"},
		{"[*?]", "*?"},
		{"[[]", "["},
		{`[\]`, `\`},
		{`[\a]`, `\a`},
		{`[\-a]`, span('\\', 'a')},
		{"[!a]", "!a"},

		{"[^a]", but("a")},
		{"[^a-c]", but("abc")},
		{"[^^]", but("^")},
		{"[^-]", but("-")},
		{"[^-a]", but("-a")},
		{"[^a-]", but("-a")},
		{"[^a^]", but("a^")},
		{"[a^]", "^a"},
		{"[^\x00-\xff]", ""},
		{`[^\]`, but(`\`)},
	} {
		if e := glob.Check(c.pattern); e != api.OK {
			t.Errorf("%q: %d", c.pattern, e)
		}
		if got := bytesOf(t, c.pattern); got != c.want {
			t.Errorf("%q matches %q, must match %q", c.pattern, got, c.want)
		}
		for _, s := range []string{"", "aa", "--", c.pattern + c.pattern} {
			if ok, e := glob.Match(c.pattern, s); ok || e != api.OK {
				t.Errorf("%q and %q: %v %d", c.pattern, s, ok, e)
			}
		}
	}
}

func TestC1PartsOneBehindAnother(t *testing.T) {
	long := strings.Repeat("a", 60)
	for _, c := range []struct {
		pattern, text string
		want          bool
	}{
		{"", "", true},
		{"", "a", false},
		{"*", "", true},
		{"*", "*", true},
		{"*", "\x00\xff\r\n", true},
		{"a*", "", false},
		{"a*", "a", true},
		{"a*", "ab", true},
		{"a*", "ba", false},
		{"*a", "a", true},
		{"*a", "ba", true},
		{"*a", "aba", true},
		{"*a", "ab", false},
		{"*a*", "bab", true},
		{"*a*", "bb", false},
		{"a*b", "ab", true},
		{"a*b", "aabb", true},
		{"a*b", "aba", false},
		{"a*b*c", "abcabc", true},
		{"a*b*c", "acb", false},
		{"*ab", "aab", true},
		{"*aab", "aaaab", true},
		{"*ab*ab", "ab", false},
		{"*ab*ab", "aabab", true},
		{"?*", "", false},
		{"?*", "a", true},
		{"*?", "", false},
		{"*?", "ab", true},
		{"a?c", "abc", true},
		{"a?c", "ac", false},
		{"?a", "aa", true},
		{"[a-]]", "a]", true},
		{"[a-]]", "-]", true},
		{"[a-]]", "a", false},
		{"[a]b]", "ab]", true},
		{"a[b]*", "ab", true},
		{"a[b]*", "a", false},
		{"[^a]*", "ba", true},
		{"[^a]*", "", false},
		{`\**`, "*x", true},
		{`\**`, "x*", false},
		{`*\*`, "x*", true},
		{`\\*`, `\x`, true},
		{`\\*`, `*`, false},
		{`\[a]`, "[a]", true},
		{"a\xff?", "a\xff\xfe", true},
		{"A", "a", false},
		{strings.Repeat("?", 60), long, true},
		{strings.Repeat("?", 59), long, false},
		{strings.Repeat("*", 60), long, true},
		{strings.Repeat("*a", 30), long, true},
		{strings.Repeat("*a", 30), long[:30], true},
		{strings.Repeat("*a", 30), long[:29], false},
		{strings.Repeat("a*", 29) + "b", long, false},
		{strings.Repeat("a*", 29) + "b", long[:59] + "b", true},
	} {
		if ok, e := glob.Match(c.pattern, c.text); ok != c.want || e != api.OK {
			t.Errorf("%q and %q: %v %d, must be %v", c.pattern, c.text, ok, e, c.want)
		}
	}
}

func TestC1WrongPatterns(t *testing.T) {
	stars := strings.Repeat("*", 60)
	for _, c := range []struct {
		pattern string
		want    api.Errno
	}{
		{"[", api.ErrForm},
		{"[a", api.ErrForm},
		{"[^", api.ErrForm},
		{"[^a", api.ErrForm},
		{"[a-", api.ErrForm},
		{"[a-b", api.ErrForm},
		{"[]", api.ErrForm},
		{"[^]", api.ErrForm},
		{"[]a]", api.ErrForm},
		{"[^]a]", api.ErrForm},
		{"a[]", api.ErrForm},
		{"[a][", api.ErrForm},
		{"[[]]", api.OK},
		{"[b-a]", api.ErrForm},
		{"[ab-a]", api.ErrForm},
		{"[^b-a]", api.ErrForm},
		{"[a--]", api.ErrForm},
		{"[a-bb-a]", api.ErrForm},
		{"[\xff-\x00]", api.ErrForm},
		{"[\x80-\x7f]", api.ErrForm},
		{"\\", api.ErrForm},
		{"a\\", api.ErrForm},
		{"\\\\\\", api.ErrForm},
		{"[a]\\", api.ErrForm},
		{"[\\", api.ErrForm},
		{stars, api.OK},
		{stars + "*", api.ErrMany},
		{stars[:59] + "[", api.ErrForm},
		{stars + "[", api.ErrMany},
		{"[" + stars, api.ErrMany},
		{stars + "\\", api.ErrMany},
	} {
		if e := glob.Check(c.pattern); e != c.want {
			t.Errorf("%q: %d, must be %d", c.pattern, e, c.want)
		}
		if c.want == api.OK {
			continue
		}
		for _, s := range []string{"", "a", c.pattern, stars + "*"} { // what is wrong with the pattern tells ahead of the text
			if ok, e := glob.Match(c.pattern, s); ok || e != c.want {
				t.Errorf("%q and %q: %v %d, must be %d", c.pattern, s, ok, e, c.want)
			}
		}
	}
}

func TestC1TextsThatAreTooLong(t *testing.T) {
	long := strings.Repeat("a", 61)
	for _, p := range []string{"", "a", "*", "[a]*"} {
		if ok, e := glob.Match(p, long); ok || e != api.ErrMany {
			t.Errorf("%q: %v %d", p, ok, e)
		}
	}
}

// TestC1ManyParts holds Match against a plain trial of all that each star could take, of parts whose bytes are known.
func TestC1ManyParts(t *testing.T) {
	parts := []struct{ pattern, bytes string }{{"*", ""}, {"?", "abc-]*"}, {"a", "a"}, {"b", "b"}, {"[ab]", "ab"}, {"[^a]", "bc-]*"}, {"[a-c]", "abc"}, {"[a-]", "a-"}, {`\*`, "*"}, {"]", "]"}, {"*", ""}}
	draw := rand.New(rand.NewSource(3))
	matched := 0
	for range 20000 {
		pattern, s := "", ""
		var bytes []string
		for range draw.Intn(7) {
			p := parts[draw.Intn(len(parts))]
			pattern += p.pattern
			bytes = append(bytes, p.bytes)
		}
		for range draw.Intn(8) {
			s += string("abc-]*"[draw.Intn(draw.Intn(6)+1)])
		}
		want := slow(bytes, s)
		if want {
			matched++
		}
		if ok, e := glob.Match(pattern, s); ok != want || e != api.OK {
			t.Fatalf("%q and %q: %v %d, must be %v", pattern, s, ok, e, want)
		}
	}
	if matched < 1000 {
		t.Errorf("only %d are matched", matched)
	}
}

// slow match: of each part which bytes may be; none: any bytes.
func slow(bytes []string, s string) bool {
	switch {
	case len(bytes) == 0:
		return s == ""
	case bytes[0] == "":
		return slow(bytes[1:], s) || s != "" && slow(bytes, s[1:])
	}
	return s != "" && strings.Contains(bytes[0], s[:1]) && slow(bytes[1:], s[1:])
}

func TestC2APlainTextIsMatchedByItselfAlone(t *testing.T) {
	plain := []string{"", "a", "A", "ab", "ba", "a]", "-", "a-c", "^", "^a", "\x00", "\xff\xfe", "\r\n", " ", strings.Repeat("a", 60)}
	for _, p := range plain {
		for _, s := range plain {
			if ok, e := glob.Match(p, s); ok != (p == s) || e != api.OK {
				t.Errorf("%q and %q: %v %d", p, s, ok, e)
			}
		}
	}
	for c := range 256 {
		p := string([]byte{byte(c)})
		if strings.Contains(`*?[\`, p) {
			continue
		}
		if got := bytesOf(t, p); got != p {
			t.Errorf("%q matches %q", p, got)
		}
	}
}

func TestC2WhatAStarMatchesIsAny(t *testing.T) {
	draw := rand.New(rand.NewSource(5))
	for n := range 61 {
		b := make([]byte, n)
		for i := range b {
			b[i] = byte(draw.Intn(256))
		}
		if ok, e := glob.Match("*", string(b)); !ok || e != api.OK {
			t.Errorf("%q: %v %d", b, ok, e)
		}
	}
}

func TestP1AnyBytes(t *testing.T) {
	draw := rand.New(rand.NewSource(7))
	for range 20000 {
		p, s := anyOf(draw, `[]-^*?\ab`), anyOf(draw, "ab-]")
		ok, e := glob.Match(p, s)
		if c := glob.Check(p); c != e || ok && e != api.OK {
			t.Fatalf("%q and %q: %v %d, checked %d", p, s, ok, e, c)
		}
		if again, f := glob.Match(p, s); again != ok || f != e {
			t.Fatalf("%q and %q: another answer", p, s)
		}
	}
}

func anyOf(draw *rand.Rand, bytes string) string {
	var b []byte
	for range draw.Intn(9) {
		b = append(b, bytes[draw.Intn(len(bytes))])
	}
	return string(b)
}
