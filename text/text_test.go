package text_test

import (
	"math"
	"reflect"
	"strings"
	"testing"

	"springhouse/api"
	"springhouse/item"
	"springhouse/text"
)

const bytes = "\x00abc\xff\r\n" // seven of them, none of which is like another

func of(s string) api.Item      { return api.Item{Kind: api.ItemText, Text: s} }
func long(n int) string         { return strings.Repeat("L", n) }
func nothing() api.Item         { return api.Item{} }
func isZero(x any) bool         { return reflect.ValueOf(x).IsZero() }
func same(x, y api.Item) bool   { return reflect.DeepEqual(x, y) }
func list(l ...string) api.Item { return api.Item{Kind: api.ItemList, List: l} }

func TestE1Append(t *testing.T) {
	for _, c := range []struct {
		x    api.Item
		s    string
		want string
	}{
		{nothing(), "", ""},
		{nothing(), "x", "x"},
		{nothing(), bytes, bytes},
		{nothing(), long(60), long(60)},
		{of(""), "", ""},
		{of(""), "x", "x"},
		{of("ab"), "", "ab"},
		{of("ab"), "cd", "abcd"},
		{of(bytes), bytes, bytes + bytes},
		{of("a"), long(59), "a" + long(59)},
		{of(long(59)), "a", long(59) + "a"},
		{of(long(60)), "", long(60)},
	} {
		y, n, e := text.Append(c.x, c.s)
		if !same(y, of(c.want)) || n != len(c.want) || e != api.OK {
			t.Errorf("%q and %q: %v %d %d", c.x.Text, c.s, y, n, e)
		}
	}
}

func TestE1AppendTooMany(t *testing.T) {
	for _, c := range []struct {
		x api.Item
		s string
	}{
		{nothing(), long(61)},
		{of(""), long(61)},
		{of("a"), long(60)},
		{of(long(60)), "a"},
		{of(long(60)), long(60)},
		{of("a"), long(100000)},
	} {
		y, n, e := text.Append(c.x, c.s)
		if !isZero(y) || n != 0 || e != api.ErrMany {
			t.Errorf("%d and %d bytes: %v %d %d", len(c.x.Text), len(c.s), y, n, e)
		}
	}
}

func TestE1Len(t *testing.T) {
	for _, x := range []api.Item{nothing(), of(""), of("x"), of(bytes), of("é"), of(long(60))} {
		if n, e := text.Len(x); n != len(x.Text) || e != api.OK {
			t.Errorf("%q: %d %d", x.Text, n, e)
		}
	}
}

func TestE1Add(t *testing.T) {
	const most = api.MaxInt
	for _, c := range []struct {
		x    api.Item
		n    int
		want int
		s    string
	}{
		{nothing(), 0, 0, "0"},
		{nothing(), 7, 7, "7"},
		{nothing(), -7, -7, "-7"},
		{nothing(), most, most, "999999999"},
		{nothing(), -most, -most, "-999999999"},
		{of("0"), 0, 0, "0"},
		{of("7"), 3, 10, "10"},
		{of("7"), -7, 0, "0"},
		{of("7"), -8, -1, "-1"},
		{of("-7"), 7, 0, "0"},
		{of("-7"), -3, -10, "-10"},
		{of("10"), -1, 9, "9"},
		{of("999999999"), 0, most, "999999999"},
		{of("999999998"), 1, most, "999999999"},
		{of("999999999"), -most, 0, "0"},
		{of("-999999999"), 0, -most, "-999999999"},
		{of("-999999998"), -1, -most, "-999999999"},
		{of("-999999999"), most, 0, "0"},
	} {
		y, n, e := text.Add(c.x, c.n)
		if !same(y, of(c.s)) || n != c.want || e != api.OK {
			t.Errorf("%q and %d: %v %d %d", c.x.Text, c.n, y, n, e)
		}
	}
}

func TestE1AddOutOfRange(t *testing.T) {
	for _, c := range []struct {
		x api.Item
		n int
	}{
		{of("1"), api.MaxInt},
		{of("999999999"), 1},
		{of("999999999"), api.MaxInt},
		{of("-1"), -api.MaxInt},
		{of("-999999999"), -1},
		{of("-999999999"), -api.MaxInt},
		{nothing(), api.MaxInt + 1},
		{nothing(), -api.MaxInt - 1},
		{of("-1"), api.MaxInt + 1}, // what comes would be right, but n is not
		{of("1"), -api.MaxInt - 1},
		{of("1"), math.MaxInt},
		{of("-1"), math.MinInt},
	} {
		y, n, e := text.Add(c.x, c.n)
		if !isZero(y) || n != 0 || e != api.ErrRange {
			t.Errorf("%q and %d: %v %d %d", c.x.Text, c.n, y, n, e)
		}
	}
}

func TestE1AddToWhatTellsNone(t *testing.T) {
	for _, s := range []string{
		"", "-", "+", "-0", "00", "07", "-07", "+7", "--7", " 7", "7 ", "7\n", "7x", "x", "1_0", "0x7", "1.0", "1e2", bytes,
		"1000000000", "-1000000000", "9999999999", "18446744073709551617", "0999999999", long(60),
	} {
		for _, n := range []int{0, 1, -1, api.MaxInt + 1, math.MinInt} { // the text tells ahead of n
			y, m, e := text.Add(of(s), n)
			if !isZero(y) || m != 0 || e != api.ErrForm {
				t.Errorf("%q and %d: %v %d %d", s, n, y, m, e)
			}
		}
	}
}

func TestE2Range(t *testing.T) {
	for _, c := range []struct {
		from, to int
		want     string
	}{
		{0, -1, "abcde"}, {0, 0, "a"}, {-1, -1, "e"}, {4, 4, "e"}, {1, 3, "bcd"}, {-4, -2, "bcd"}, {1, -2, "bcd"}, {-4, 3, "bcd"},
		{0, 4, "abcde"}, {0, 5, "abcde"}, {-5, -1, "abcde"}, {-6, -1, "abcde"}, {-6, 0, "a"}, {4, 9, "e"}, {-99, 99, "abcde"}, {-99, -5, "a"},
		{2, 1, ""}, {-1, -2, ""}, {-1, 0, ""}, {5, 5, ""}, {5, 9, ""}, {0, -6, ""}, {-99, -6, ""}, {-99, -98, ""}, {99, -99, ""},
		{math.MinInt, math.MaxInt, "abcde"}, {math.MaxInt, math.MinInt, ""}, {math.MinInt, math.MinInt, ""}, {math.MaxInt, math.MaxInt, ""},
	} {
		if s, e := text.Range(of("abcde"), c.from, c.to); s != c.want || e != api.OK {
			t.Errorf("%d to %d: %q %d, must be %q", c.from, c.to, s, e, c.want)
		}
		for _, x := range []api.Item{nothing(), of("")} {
			if s, e := text.Range(x, c.from, c.to); s != "" || e != api.OK {
				t.Errorf("%d to %d of kind %d without bytes: %q %d", c.from, c.to, x.Kind, s, e)
			}
		}
	}
}

func TestE2EveryByte(t *testing.T) {
	for i := range len(bytes) {
		for _, at := range []int{i, i - len(bytes)} {
			if s, e := text.Range(of(bytes), at, at); s != bytes[i:i+1] || e != api.OK {
				t.Errorf("%d: %q %d", at, s, e)
			}
		}
	}
}

func TestE3WhatIsAppendedIsBehind(t *testing.T) {
	x, whole := nothing(), ""
	for _, s := range []string{"", "a", "", bytes, "-7", long(20), bytes, "z"} {
		y, n, e := text.Append(x, s)
		if e != api.OK || n != len(whole)+len(s) {
			t.Fatalf("%q and %q: %d %d", whole, s, n, e)
		}
		if was, e := text.Range(y, 0, len(whole)-1); len(whole) > 0 && (was != whole || e != api.OK) {
			t.Errorf("what was there is %q %d, and was %q", was, e, whole)
		}
		if came, e := text.Range(y, len(whole), -1); came != s || e != api.OK {
			t.Errorf("behind is %q %d, and must be %q", came, e, s)
		}
		if m, e := text.Len(y); m != n || e != api.OK {
			t.Errorf("%q has %d bytes, %d", y.Text, m, e)
		}
		x, whole = y, whole+s
	}
}

type wrong struct {
	name string
	x    api.Item
	want api.Errno
}

// wrongs: items that are no right texts, nor nothing.
func wrongs() []wrong {
	return []wrong{
		{"no kind, but a text", api.Item{Text: "1"}, api.ErrKind},
		{"no kind, but elements", api.Item{List: []string{"1"}}, api.ErrKind},
		{"a kind too many", api.Item{Kind: 6}, api.ErrKind},
		{"a kind below 0", api.Item{Kind: -1, Text: "1"}, api.ErrKind},
		{"a text with elements", api.Item{Kind: api.ItemText, Text: "1", List: []string{"a"}}, api.ErrForm},
		{"a text with pairs", api.Item{Kind: api.ItemText, Text: "1", Pairs: []api.Pair{{}}}, api.ErrForm},
		{"a text with scores", api.Item{Kind: api.ItemText, Text: long(61), Scores: []api.Score{{}}}, api.ErrForm},
		{"a text too long", of(long(61)), api.ErrMany},
		{"a list", list("1"), api.ErrKind},
		{"a set", api.Item{Kind: api.ItemSet, List: []string{"1"}}, api.ErrKind},
		{"a hash", api.Item{Kind: api.ItemHash, Pairs: []api.Pair{{}}}, api.ErrKind},
		{"scores", api.Item{Kind: api.ItemScore, Scores: []api.Score{{}}}, api.ErrKind},
		{"a list with a text", api.Item{Kind: api.ItemList, Text: "1", List: []string{"1"}}, api.ErrForm},
		{"a list without elements", list(), api.ErrNone},
		{"a list too long", list(make([]string, 25)...), api.ErrMany},
		{"a set that falls", api.Item{Kind: api.ItemSet, List: []string{"b", "a"}}, api.ErrState},
		{"a number out of range", api.Item{Kind: api.ItemScore, Scores: []api.Score{{N: api.MaxInt + 1}}}, api.ErrRange},
		{"a member twice", api.Item{Kind: api.ItemScore, Scores: []api.Score{{N: 1}, {N: 2}}}, api.ErrTwice},
	}
}

// TestP1ErrorsOfTheItem: they tell ahead of all others, and nothing else is answered.
func TestP1ErrorsOfTheItem(t *testing.T) {
	for _, c := range wrongs() {
		for _, s := range []string{"", "x", long(61)} {
			if y, n, e := text.Append(c.x, s); !isZero(y) || n != 0 || e != c.want {
				t.Errorf("%s: Append: %v %d %d, must be %d", c.name, y, n, e, c.want)
			}
		}
		if n, e := text.Len(c.x); n != 0 || e != c.want {
			t.Errorf("%s: Len: %d %d, must be %d", c.name, n, e, c.want)
		}
		for _, m := range []int{0, 1, math.MaxInt} {
			if y, n, e := text.Add(c.x, m); !isZero(y) || n != 0 || e != c.want {
				t.Errorf("%s: Add: %v %d %d, must be %d", c.name, y, n, e, c.want)
			}
		}
		for _, p := range [][2]int{{0, -1}, {1, 0}, {math.MinInt, math.MaxInt}} {
			if s, e := text.Range(c.x, p[0], p[1]); s != "" || e != c.want {
				t.Errorf("%s: Range: %q %d, must be %d", c.name, s, e, c.want)
			}
		}
	}
}

// TestP1WhatIsAnsweredIsAnItem: and it has no list, though one without elements was handed in.
func TestP1WhatIsAnsweredIsAnItem(t *testing.T) {
	for _, x := range []api.Item{nothing(), of("7")} {
		x.List, x.Pairs, x.Scores = []string{}, []api.Pair{}, []api.Score{}
		y, _, e := text.Append(x, "1")
		z, _, f := text.Add(x, 1)
		if e != api.OK || f != api.OK || item.Check(y) != api.OK || item.Check(z) != api.OK {
			t.Errorf("%v %d, %v %d", y, e, z, f)
		}
	}
}

// TestP2WhatIsHandedInIsOnlyRead: lists without elements have spare room behind them too.
func TestP2WhatIsHandedInIsOnlyRead(t *testing.T) {
	room := []string{"spare", "room"}
	x := api.Item{Kind: api.ItemText, Text: "41", List: room[:0]}
	y, _, _ := text.Append(x, "a")
	z, _, _ := text.Add(x, 1)
	text.Len(x)
	text.Range(x, 0, -1)
	y.List, z.List = append(y.List, "y"), append(z.List, "z")
	if x.Kind != api.ItemText || x.Text != "41" || !reflect.DeepEqual(room, []string{"spare", "room"}) {
		t.Errorf("%v, behind it %q", x, room)
	}
}
