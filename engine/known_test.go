package engine_test

import (
	"slices"
	"strings"
	"testing"

	"springhouse/api"
	"springhouse/engine"
)

// forms: the commands as the document has them.
const forms = "ping; get k, set k v, append k v, strlen k, incrby k n, getrange k a b; del k .., exists k .., type k, keys p, expire k n, ttl k, persist k; lpush k v .., rpush k v .., lpop k, rpop k, lrange k a b, ltrim k a b, lrem k v; sadd k v .., srem k v .., sismember k v, smembers k, sinter k .., sunion k .., sdiff k ..; hset k f v .., hget k f, hdel k f .., hgetall k; zadd k n m .., zrem k m .., zscore k m, zrank k m, zrange k a b, zrangebyscore k a b"

// known commands, each as the words of its form.
func known() [][]string {
	var l [][]string
	for _, form := range strings.FieldsFunc(forms, func(c rune) bool { return c == ',' || c == ';' }) {
		l = append(l, strings.Fields(form))
	}
	return l
}

// may a command of a form have n words behind its name?
func may(form []string, n int) bool {
	stand := len(form) - 1
	if form[stand] != ".." {
		return n == stand
	}
	stand--
	if form[0] == "hset" || form[0] == "zadd" {
		return n == 3 || n == 5 || n == 7 || n == 9 || n == 11
	}
	return n >= stand && n <= 11
}

// words of a form, n behind the name: all are texts that are numbers too.
func words(form []string, n int) []string {
	return append([]string{form[0]}, slices.Repeat([]string{"1"}, n)...)
}

// least number of words that a command of a form may have behind its name.
func least(form []string) int {
	for n := range 12 {
		if may(form, n) {
			return n
		}
	}
	return -1
}

func isNumber(form []string, place int) bool {
	if form[0] == "zadd" {
		return place >= 2 && place%2 == 0
	}
	return place < len(form) && slices.Contains([]string{"n", "a", "b"}, form[place])
}

func TestK1HowManyWords(t *testing.T) {
	if n := len(known()); n != 38 {
		t.Fatalf("%d commands", n)
	}
	for _, form := range known() {
		for n := range 16 {
			want := api.ErrForm
			if may(form, n) {
				want = api.OK
			}
			if n > 11 {
				want = api.ErrMany
			}
			if e := engine.Known(words(form, n)); e != want {
				t.Errorf("%s and %d: %d, must be %d", form[0], n, e, want)
			}
		}
	}
}

func TestK1LettersSmallOrNot(t *testing.T) {
	for _, form := range known() {
		l := words(form, least(form))
		name := form[0]
		for _, l[0] = range []string{strings.ToUpper(name), strings.ToUpper(name[:1]) + name[1:], name[:1] + strings.ToUpper(name[1:])} {
			if e := engine.Known(l); e != api.OK {
				t.Errorf("%q: %d", l[0], e)
			}
		}
		for i := range len(name) {
			for _, bit := range []byte{0x40, 0x80, 0x10} {
				b := []byte(name)
				b[i] ^= bit
				l[0] = string(b)
				if e := engine.Known(l); e != api.ErrNone {
					t.Errorf("%q: %d", l[0], e)
				}
			}
		}
		for _, l[0] = range []string{name + " ", " " + name, name[:len(name)-1], name + "s", name + "\x00"} {
			if e := engine.Known(l); e != api.ErrNone {
				t.Errorf("%q: %d", l[0], e)
			}
		}
	}
	// Signs that are letters elsewhere, and fold to those of the document.
	for _, l := range [][]string{{"\u212aeys", "*"}, {"\u017fet", "k", "v"}, {"per\u017fi\u017ft", "k"}} {
		if e := engine.Known(l); e != api.ErrNone {
			t.Errorf("%q: %d", l, e)
		}
	}
}

func TestK1Numbers(t *testing.T) {
	rights := []string{"0", "1", "-1", "10", "999999999", "-999999999", "-10"}
	wrongs := []string{"", "x", "+1", "-0", "00", "01", "-01", " 1", "1 ", "-", "--1", "1.0", "1e3", "0x1", "1_0", "1000000000", "-1000000000", "9223372036854775807", "-9223372036854775808", "18446744073709551617", "\u0661", "1\x00", strings.Repeat("9", 60)}
	for _, form := range known() {
		for n := range 12 {
			if !may(form, n) {
				continue
			}
			for place := 1; place <= n; place++ {
				l := words(form, n)
				for _, l[place] = range rights {
					if e := engine.Known(l); e != api.OK {
						t.Errorf("%q: %d", l, e)
					}
				}
				want := api.OK
				if isNumber(form, place) {
					want = api.ErrRange
				}
				for _, l[place] = range wrongs {
					if e := engine.Known(l); e != want {
						t.Errorf("%q: %d, must be %d", l, e, want)
					}
				}
			}
		}
	}
}

func TestK1Errors(t *testing.T) {
	many := slices.Repeat([]string{"x"}, 13)
	for _, c := range []struct {
		name string
		l    []string
		want api.Errno
	}{
		{"no words", nil, api.ErrForm},
		{"no words, not nil", []string{}, api.ErrForm},
		{"twelve words", append([]string{"del"}, many[:11]...), api.OK},
		{"thirteen words", append([]string{"del"}, many[:12]...), api.ErrMany},
		{"words of 60 bytes", []string{"set", long(60), long(60)}, api.OK},
		{"a key of 61 bytes", []string{"set", long(61), "v"}, api.ErrMany},
		{"a value of 61 bytes", []string{"set", "k", long(61)}, api.ErrMany},
		{"a name of 60 bytes", []string{long(60)}, api.ErrNone},
		{"a name of 61 bytes", []string{long(61)}, api.ErrMany},
		{"an empty name", []string{""}, api.ErrNone},
		{"a name that is none", []string{"what"}, api.ErrNone},
		{"one of a session", []string{"multi"}, api.ErrNone},
		{"the name behind", []string{"k", "get"}, api.ErrNone},
		// Each error ahead of those that are named later.
		{"too many words, and no name", many, api.ErrMany},
		{"a word too long, and no name", []string{"what", long(61)}, api.ErrMany},
		{"a word too long, and too few", []string{"set", long(61)}, api.ErrMany},
		{"no name, whatever the words are", []string{"what", "x", "x"}, api.ErrNone},
		{"too few words, and no number", []string{"lrange", "l", "x"}, api.ErrForm},
		{"too many words, and no number", []string{"incrby", "l", "x", "y"}, api.ErrForm},
		{"an odd number of words, and no number", []string{"zadd", "z", "x", "a", "y"}, api.ErrForm},
		{"pairs that lack a value", []string{"hset", "h", "f", "v", "g"}, api.ErrForm},
		{"no pairs", []string{"hset", "h"}, api.ErrForm},
		{"no scores", []string{"zadd", "z"}, api.ErrForm},
		{"a member that is no number", []string{"zadd", "z", "1", "x", "2", "y"}, api.OK},
		{"the second score's number", []string{"zadd", "z", "1", "a", "b", "2"}, api.ErrRange},
		{"a pattern that is none", []string{"keys", "["}, api.OK},
	} {
		if e := engine.Known(c.l); e != c.want {
			t.Errorf("%s: %d, must be %d", c.name, e, c.want)
		}
	}
}
