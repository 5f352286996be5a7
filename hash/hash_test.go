package hash_test

import (
	"reflect"
	"slices"
	"strconv"
	"strings"
	"testing"

	"springhouse/api"
	"springhouse/hash"
	"springhouse/item"
)

func of(l ...api.Pair) api.Item { return api.Item{Kind: api.ItemHash, Pairs: l} }
func long(n int) string         { return strings.Repeat("L", n) }
func nothing() api.Item         { return api.Item{} }
func isZero(x any) bool         { return reflect.ValueOf(x).IsZero() }

// pairs of words, each of which is a field, =, and its value.
func pairs(words string) []api.Pair {
	var l []api.Pair
	for _, w := range strings.Fields(words) {
		field, value, _ := strings.Cut(w, "=")
		l = append(l, api.Pair{Field: field, Value: value})
	}
	return l
}

// is: has an item just these pairs, and nothing else? One without pairs must be nothing.
func is(x api.Item, l []api.Pair) bool {
	if len(l) == 0 {
		return isZero(x)
	}
	return item.Check(x) == api.OK && x.Kind == api.ItemHash && slices.Equal(x.Pairs, l)
}

// names are n pairs whose fields rise.
func names(n int) []api.Pair {
	var l []api.Pair
	for i := range n {
		l = append(l, api.Pair{Field: strconv.Itoa(100 + i), Value: strconv.Itoa(i)})
	}
	return l
}

// fields of pairs.
func fields(l []api.Pair) []string {
	var s []string
	for _, p := range l {
		s = append(s, p.Field)
	}
	return s
}

func TestH1Put(t *testing.T) {
	for _, c := range []struct {
		x    api.Item
		l    []api.Pair
		want []api.Pair
		n    int
	}{
		{nothing(), pairs("f=1"), pairs("f=1"), 1},
		{nothing(), pairs("b=1 a=2"), pairs("a=2 b=1"), 2},
		{nothing(), pairs("b=1 a=2 b=3"), pairs("a=2 b=3"), 2},
		{nothing(), pairs("b=3 b=2 b=1"), pairs("b=1"), 1},
		{nothing(), pairs("="), pairs("="), 1},
		{nothing(), make([]api.Pair, 30), pairs("="), 1},
		{of(pairs("f=1")...), pairs("f=9"), pairs("f=9"), 0},
		{of(pairs("f=9")...), pairs("f=1"), pairs("f=1"), 0},
		{of(pairs("f=1")...), pairs("f=1"), pairs("f=1"), 0},
		{of(pairs("f=1")...), pairs("f="), pairs("f="), 0},
		{of(pairs("f=1")...), pairs("f=2 f=3 f=2"), pairs("f=2"), 0},
		{of(pairs("f=1")...), pairs("F=2"), pairs("F=2 f=1"), 1},
		{of(pairs("f=1")...), pairs("=2"), pairs("=2 f=1"), 1},
		{of(pairs("b=1 d=2")...), pairs("e=3 a=4 c=5 b=6"), pairs("a=4 b=6 c=5 d=2 e=3"), 3},
		{of(pairs("ab=1")...), pairs("abc=2 a=3 b=4 aa=5"), pairs("a=3 aa=5 ab=1 abc=2 b=4"), 4},
		{of(pairs("z=1")...), pairs("\xff=\x00 \x00=\xff"), pairs("\x00=\xff z=1 \xff=\x00"), 2},
		{of(pairs("a=1")...), pairs(long(60) + "=" + long(60)), pairs(long(60) + "=" + long(60) + " a=1"), 1},
	} {
		y, n, e := hash.Put(c.x, c.l)
		if !is(y, c.want) || n != c.n || e != api.OK {
			t.Errorf("%q to %q: %v %d %d, must be %q %d", c.l, c.x.Pairs, y, n, e, c.want, c.n)
		}
	}
}

func TestH1PutAsManyAsMayBe(t *testing.T) {
	all := names(50)
	for there := range 25 {
		x := nothing()
		if there > 0 {
			x = of(all[:there]...)
		}
		for put := 1; put < 26; put++ {
			// Fields that are there, and those that come twice, do not count.
			l := slices.Concat(all[there:there+put], all[:there], all[there:there+put])
			y, n, e := hash.Put(x, l)
			if there+put > 24 {
				if !isZero(y) || n != 0 || e != api.ErrMany {
					t.Errorf("%d to %d: %v %d %d", put, there, y, n, e)
				}
			} else if !is(y, all[:there+put]) || n != put || e != api.OK {
				t.Errorf("%d to %d: %v %d %d", put, there, y, n, e)
			}
		}
	}
}

func TestH1PutErrors(t *testing.T) {
	full := of(names(24)...)
	for _, c := range []struct {
		name string
		x    api.Item
		l    []api.Pair
		want api.Errno
	}{
		{"none to nothing", nothing(), nil, api.ErrForm},
		{"none, not nil", nothing(), []api.Pair{}, api.ErrForm},
		{"none to some", of(names(2)...), nil, api.ErrForm},
		{"none to a full one", full, nil, api.ErrForm},
		{"a field too long", nothing(), []api.Pair{{Field: long(61)}}, api.ErrMany},
		{"a value too long", nothing(), []api.Pair{{Value: long(61)}}, api.ErrMany},
		{"the first value too long", of(names(2)...), pairs("p=" + long(61) + " q="), api.ErrMany},
		{"the last field too long", of(names(2)...), pairs("p= " + long(61) + "="), api.ErrMany},
		{"a value too long, and a later one in its place", nothing(), pairs("p=" + long(61) + " p=1"), api.ErrMany},
		{"a value too long in a field's place", full, pairs("100=" + long(61)), api.ErrMany},
		{"one to a full one", full, []api.Pair{{}}, api.ErrMany},
		{"one that is there, one that is not", full, pairs("100=x z=y"), api.ErrMany},
		{"one more than may be", nothing(), names(25), api.ErrMany},
		{"very many", nothing(), names(1000), api.ErrMany},
	} {
		y, n, e := hash.Put(c.x, c.l)
		if !isZero(y) || n != 0 || e != c.want {
			t.Errorf("%s: %v %d %d, must be %d", c.name, y, n, e, c.want)
		}
	}
}

func TestH1Get(t *testing.T) {
	x := of(pairs("=0 a=1 ab= b=3")...)
	for field, want := range map[string]string{"": "0", "a": "1", "ab": "", "b": "3"} {
		if s, e := hash.Get(x, field); s != want || e != api.OK {
			t.Errorf("%q: %q %d, must be %q", field, s, e, want)
		}
	}
	for _, field := range []string{"A", "abc", "c", "0", "3", "b ", long(60), long(61)} {
		if s, e := hash.Get(x, field); s != "" || e != api.ErrNone {
			t.Errorf("%q: %q %d", field, s, e)
		}
	}
	for _, field := range []string{"", "a"} {
		if s, e := hash.Get(nothing(), field); s != "" || e != api.ErrNone {
			t.Errorf("%q of nothing: %q %d", field, s, e)
		}
	}
	if s, e := hash.Get(of(api.Pair{Field: long(60), Value: long(60)}), long(60)); s != long(60) || e != api.OK {
		t.Errorf("%q %d", s, e)
	}
}

func TestH1Drop(t *testing.T) {
	abc := of(pairs("a=1 b=2 c=3")...)
	for _, c := range []struct {
		x    api.Item
		l    []string
		want []api.Pair
		n    int
	}{
		{abc, []string{"b"}, pairs("a=1 c=3"), 1},
		{abc, []string{"c", "a"}, pairs("b=2"), 2},
		{abc, []string{"a", "a", "a"}, pairs("b=2 c=3"), 1},
		{abc, []string{"z", "a", "z", "1"}, pairs("b=2 c=3"), 1},
		{abc, []string{"A", "", "2", long(61)}, pairs("a=1 b=2 c=3"), 0},
		{abc, nil, pairs("a=1 b=2 c=3"), 0},
		{abc, []string{}, pairs("a=1 b=2 c=3"), 0},
		{abc, []string{"c", "b", "a"}, nil, 3},
		{of(pairs("=1 a=2")...), []string{""}, pairs("a=2"), 1},
		{of(pairs("a=1 ab=2 abc=3")...), []string{"ab"}, pairs("a=1 abc=3"), 1},
		{of(pairs("a=1")...), []string{"a"}, nil, 1},
		{of(names(24)...), fields(names(23)), names(24)[23:], 23},
		{of(names(24)...), fields(names(1000)), nil, 24},
		{nothing(), nil, nil, 0},
		{nothing(), []string{"", "a"}, nil, 0},
	} {
		y, n, e := hash.Drop(c.x, c.l)
		if !is(y, c.want) || n != c.n || e != api.OK {
			t.Errorf("%q without %q: %v %d %d, must be %q %d", c.x.Pairs, c.l, y, n, e, c.want, c.n)
		}
	}
}

// got: what Get says of some fields, those that are not there too.
func got(x api.Item) map[string]string {
	m := map[string]string{}
	for _, field := range []string{"", "a", "ab", "b", "c"} {
		if s, e := hash.Get(x, field); e == api.OK {
			m[field] = s
		} else if e != api.ErrNone {
			m[field] = "error " + strconv.Itoa(int(e))
		}
	}
	return m
}

// some hashes: each that has fields of a, ab, b alone; nothing is one of them.
func some() []api.Item {
	var l []api.Item
	for bits := range 8 {
		var have []api.Pair
		for i, field := range []string{"a", "ab", "b"} {
			if bits>>i&1 == 1 {
				have = append(have, api.Pair{Field: field, Value: "was " + field})
			}
		}
		if len(have) == 0 {
			l = append(l, nothing())
		} else {
			l = append(l, of(have...))
		}
	}
	return l
}

func TestH2WhatWasPutLastIsGot(t *testing.T) {
	words := []string{"a=1", "a=2", "ab=3", "b=4", "=5", "a="}
	for _, x := range some() {
		for _, u := range words {
			for _, v := range words {
				for _, w := range words {
					l := pairs(u + " " + v + " " + w)
					want := got(x)
					for _, p := range l {
						want[p.Field] = p.Value
					}
					y, n, e := hash.Put(x, l)
					if !reflect.DeepEqual(got(y), want) || n != len(want)-len(x.Pairs) || e != api.OK {
						t.Errorf("%q to %q: %v %d %d", l, x.Pairs, y, n, e)
					}
				}
			}
		}
	}
}

func TestH2OneByOneIsAllAtOnce(t *testing.T) {
	l := pairs("b=1 a=2 b=3 c=4 a=5 =6 c=7")
	for _, x := range some() {
		atOnce, n, _ := hash.Put(x, l)
		y, sum := x, 0
		for _, p := range l {
			z, k, e := hash.Put(y, []api.Pair{p})
			if e != api.OK {
				t.Fatalf("%q: %d", p, e)
			}
			y, sum = z, sum+k
		}
		if !is(y, atOnce.Pairs) || sum != n {
			t.Errorf("%q: %v %d and %v %d", x.Pairs, y, sum, atOnce, n)
		}
	}
}

func TestH2WhatIsDroppedIsNotGot(t *testing.T) {
	all := []string{"a", "ab", "b", "c"}
	for _, x := range some() {
		for _, u := range all {
			for _, v := range all {
				want := got(x)
				delete(want, u)
				delete(want, v)
				y, n, e := hash.Drop(x, []string{u, v})
				if !reflect.DeepEqual(got(y), want) || n != len(x.Pairs)-len(want) || e != api.OK {
					t.Errorf("%q without %q and %q: %v %d %d", x.Pairs, u, v, y, n, e)
				}
			}
		}
	}
}

type wrong struct {
	name string
	x    api.Item
	want api.Errno
}

// wrongs: items that are no right hashes, nor nothing.
func wrongs() []wrong {
	return []wrong{
		{"no kind, but pairs", api.Item{Pairs: pairs("a=1")}, api.ErrKind},
		{"no kind, but a text", api.Item{Text: "a"}, api.ErrKind},
		{"a kind too many", api.Item{Kind: 6, Pairs: pairs("a=1")}, api.ErrKind},
		{"a kind below 0", api.Item{Kind: -1}, api.ErrKind},
		{"a hash with a text", api.Item{Kind: api.ItemHash, Text: "x", Pairs: pairs("a=1")}, api.ErrForm},
		{"a hash with a list", api.Item{Kind: api.ItemHash, Pairs: pairs("a=1"), List: []string{""}}, api.ErrForm},
		{"a hash with scores", api.Item{Kind: api.ItemHash, Scores: []api.Score{{}}}, api.ErrForm},
		{"a hash without pairs", of(), api.ErrNone},
		{"a hash without pairs, not nil", of([]api.Pair{}...), api.ErrNone},
		{"pairs too many", of(names(25)...), api.ErrMany},
		{"a field too long", of(api.Pair{Field: long(61)}), api.ErrMany},
		{"a value too long", of(api.Pair{Value: long(61)}), api.ErrMany},
		{"a value too long, and they fall", of(api.Pair{Field: "b"}, api.Pair{Field: "a", Value: long(61)}), api.ErrMany},
		{"a hash that falls", of(pairs("b=1 a=2")...), api.ErrState},
		{"a field twice", of(pairs("a=1 a=2")...), api.ErrState},
		{"a beginning behind", of(pairs("ab=1 a=2")...), api.ErrState},
		{"a text", api.Item{Kind: api.ItemText, Text: "a"}, api.ErrKind},
		{"an empty text", api.Item{Kind: api.ItemText}, api.ErrKind},
		{"a list", api.Item{Kind: api.ItemList, List: []string{"a"}}, api.ErrKind},
		{"a set", api.Item{Kind: api.ItemSet, List: []string{"a", "b"}}, api.ErrKind},
		{"scores", api.Item{Kind: api.ItemScore, Scores: []api.Score{{}}}, api.ErrKind},
		{"a text too long", api.Item{Kind: api.ItemText, Text: long(61)}, api.ErrMany},
		{"a set that falls", api.Item{Kind: api.ItemSet, List: []string{"b", "a"}}, api.ErrState},
		{"a number out of range", api.Item{Kind: api.ItemScore, Scores: []api.Score{{N: api.MaxInt + 1}}}, api.ErrRange},
		{"a score's member twice", api.Item{Kind: api.ItemScore, Scores: []api.Score{{N: 1}, {N: 2}}}, api.ErrTwice},
	}
}

// TestP1ErrorsOfTheItem: they tell ahead of all others, and nothing else is answered.
func TestP1ErrorsOfTheItem(t *testing.T) {
	for _, c := range wrongs() {
		for _, l := range [][]api.Pair{nil, pairs("a=1"), {{Field: long(61)}}, {{Value: long(61)}}, names(25)} {
			if y, n, e := hash.Put(c.x, l); !isZero(y) || n != 0 || e != c.want {
				t.Errorf("%s: Put: %v %d %d, must be %d", c.name, y, n, e, c.want)
			}
		}
		for _, s := range []string{"a", "z", ""} {
			if v, e := hash.Get(c.x, s); v != "" || e != c.want {
				t.Errorf("%s: Get: %q %d, must be %d", c.name, v, e, c.want)
			}
		}
		for _, l := range [][]string{nil, {"a"}, {"z", ""}, {long(61)}} {
			if y, n, e := hash.Drop(c.x, l); !isZero(y) || n != 0 || e != c.want {
				t.Errorf("%s: Drop: %v %d %d, must be %d", c.name, y, n, e, c.want)
			}
		}
	}
}

// calls: each answers pairs, of a hash, of pairs and of fields.
func calls() map[string]func(x api.Item, l []api.Pair, s []string) []api.Pair {
	return map[string]func(x api.Item, l []api.Pair, s []string) []api.Pair{
		"Put": func(x api.Item, l []api.Pair, _ []string) []api.Pair { y, _, _ := hash.Put(x, l); return y.Pairs },
		"Put to 0": func(_ api.Item, l []api.Pair, _ []string) []api.Pair {
			y, _, _ := hash.Put(nothing(), l)
			return y.Pairs
		},
		"Put to room": func(x api.Item, l []api.Pair, _ []string) []api.Pair {
			y, _, _ := hash.Put(api.Item{Pairs: x.Pairs[:0]}, l)
			return y.Pairs
		},
		"Put those there": func(x api.Item, _ []api.Pair, _ []string) []api.Pair {
			y, _, _ := hash.Put(x, pairs("b=9"))
			return y.Pairs
		},
		"Drop":         func(x api.Item, _ []api.Pair, s []string) []api.Pair { y, _, _ := hash.Drop(x, s); return y.Pairs },
		"Drop of none": func(x api.Item, _ []api.Pair, _ []string) []api.Pair { y, _, _ := hash.Drop(x, nil); return y.Pairs },
		"Get": func(x api.Item, _ []api.Pair, _ []string) []api.Pair {
			v, _ := hash.Get(x, "b")
			return []api.Pair{{Value: v}}
		},
	}
}

// TestP2WhatIsHandedInIsOnlyRead: nor is the spare room behind it written, and an answer is not changed by a later change of it, nor it by one of an answer.
func TestP2WhatIsHandedInIsOnlyRead(t *testing.T) {
	const there, more = "a=1 b=2 c=3 -=- -=- -=- -=-", "q=1 b=2 p=3 -=- -=- -=- -=-"
	for name, call := range calls() {
		x, l, s := pairs(there), pairs(more), []string{"z", "b", "-", "-"}
		answer := call(of(x[:3]...), l[:3], s[:2])
		if !slices.Equal(x, pairs(there)) || !slices.Equal(l, pairs(more)) || !slices.Equal(s, []string{"z", "b", "-", "-"}) {
			t.Errorf("%s: %q, %q and %q then", name, x, l, s)
		}
		was := slices.Clone(answer)
		for i := range x {
			x[i], l[i] = api.Pair{Field: "!"}, api.Pair{Field: "?"}
		}
		if !slices.Equal(answer, was) || len(answer) == 0 {
			t.Errorf("%s: %q, and was %q", name, answer, was)
		}
		for i := range answer[:cap(answer)] {
			answer[:cap(answer)][i] = api.Pair{Field: "x"}
		}
		if slices.Contains(x, api.Pair{Field: "x"}) || slices.Contains(l, api.Pair{Field: "x"}) {
			t.Errorf("%s: an answer shares memory: %q and %q", name, x, l)
		}
	}
}

// TestP3TheSameEachTime: the order in which a map is gone through is not to be seen.
func TestP3TheSameEachTime(t *testing.T) {
	turned := names(24)
	slices.Reverse(turned)
	for range 50 {
		if y, n, e := hash.Put(nothing(), turned); !is(y, names(24)) || n != 24 || e != api.OK {
			t.Fatalf("%v %d %d", y, n, e)
		}
	}
}
