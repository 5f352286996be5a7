package list_test

import (
	"math"
	"reflect"
	"slices"
	"strconv"
	"strings"
	"testing"

	"springhouse/api"
	"springhouse/item"
	"springhouse/list"
)

func of(l ...string) api.Item   { return api.Item{Kind: api.ItemList, List: l} }
func long(n int) string         { return strings.Repeat("L", n) }
func nothing() api.Item         { return api.Item{} }
func isZero(x any) bool         { return reflect.ValueOf(x).IsZero() }
func letters(s string) []string { return strings.Split(s, "") }

// is: has an item just these elements, and nothing else? One without elements must be nothing.
func is(x api.Item, l []string) bool {
	if len(l) == 0 {
		return isZero(x)
	}
	return item.Check(x) == api.OK && x.Kind == api.ItemList && slices.Equal(x.List, l)
}

// names are n elements, none of which is like another.
func names(n int) []string {
	var l []string
	for i := range n {
		l = append(l, strconv.Itoa(i))
	}
	return l
}

func TestF1Push(t *testing.T) {
	for _, c := range []struct {
		x           api.Item
		l           []string
		left, right []string
	}{
		{nothing(), letters("p"), letters("p"), letters("p")},
		{nothing(), letters("pqr"), letters("rqp"), letters("pqr")},
		{nothing(), []string{""}, []string{""}, []string{""}},
		{of("a"), letters("p"), letters("pa"), letters("ap")},
		{of("a", "b"), letters("pqr"), letters("rqpab"), letters("abpqr")},
		{of("a", "b"), letters("aab"), letters("baaab"), letters("abaab")},
		{of("", "\xff"), []string{"\x00", long(60)}, []string{long(60), "\x00", "", "\xff"}, []string{"", "\xff", "\x00", long(60)}},
	} {
		for left, want := range map[bool][]string{true: c.left, false: c.right} {
			y, n, e := list.Push(c.x, left, c.l)
			if !is(y, want) || n != len(want) || e != api.OK {
				t.Errorf("%q to %q, left %v: %v %d %d", c.l, c.x.List, left, y, n, e)
			}
		}
	}
}

func TestF1PushAsManyAsMayBe(t *testing.T) {
	all := names(24)
	for _, left := range []bool{true, false} {
		for there := range 25 {
			x := nothing()
			if there > 0 {
				x = of(all[:there]...)
			}
			for pushed := 1; pushed < 30; pushed++ {
				want := api.OK
				if there+pushed > 24 {
					want = api.ErrMany
				}
				y, n, e := list.Push(x, left, make([]string, pushed))
				if e != want || e == api.OK && n != there+pushed || e != api.OK && (!isZero(y) || n != 0) {
					t.Errorf("%d to %d, left %v: %v %d %d", pushed, there, left, y, n, e)
				}
			}
		}
	}
}

func TestF1PushErrors(t *testing.T) {
	full := of(names(24)...)
	for _, c := range []struct {
		name string
		x    api.Item
		l    []string
		want api.Errno
	}{
		{"none to nothing", nothing(), nil, api.ErrForm},
		{"none, not nil", nothing(), []string{}, api.ErrForm},
		{"none to some", of("a"), nil, api.ErrForm},
		{"none to a full one", full, nil, api.ErrForm},
		{"one too long", nothing(), []string{long(61)}, api.ErrMany},
		{"the last one too long", of("a"), []string{"", "p", long(61)}, api.ErrMany},
		{"one to a full one", full, []string{""}, api.ErrMany},
		{"very many", nothing(), make([]string, 100000), api.ErrMany},
	} {
		for _, left := range []bool{true, false} {
			y, n, e := list.Push(c.x, left, c.l)
			if !isZero(y) || n != 0 || e != c.want {
				t.Errorf("%s, left %v: %v %d %d, must be %d", c.name, left, y, n, e, c.want)
			}
		}
	}
}

func TestF1Pop(t *testing.T) {
	for _, c := range []struct {
		x    api.Item
		left bool
		rest []string
		s    string
	}{
		{of("a", "b", "c"), true, letters("bc"), "a"},
		{of("a", "b", "c"), false, letters("ab"), "c"},
		{of("a", "a", "b", "a"), true, letters("aba"), "a"},
		{of("a", "b", "a", "a"), false, letters("aba"), "a"},
		{of("", "a"), true, letters("a"), ""},
		{of("a", ""), false, letters("a"), ""},
		{of("a"), true, nil, "a"},
		{of("a"), false, nil, "a"},
		{of(names(24)...), true, names(24)[1:], "0"},
		{of(names(24)...), false, names(23), "23"},
	} {
		y, s, e := list.Pop(c.x, c.left)
		if !is(y, c.rest) || s != c.s || e != api.OK {
			t.Errorf("%q, left %v: %v %q %d", c.x.List, c.left, y, s, e)
		}
	}
}

func TestF1PopOfNothing(t *testing.T) {
	for _, x := range []api.Item{nothing(), {List: []string{}}} {
		for _, left := range []bool{true, false} {
			if y, s, e := list.Pop(x, left); !isZero(y) || s != "" || e != api.ErrNone {
				t.Errorf("left %v: %v %q %d", left, y, s, e)
			}
		}
	}
}

func TestF1RangeAndTrim(t *testing.T) {
	for _, c := range []struct {
		from, to int
		want     string
	}{
		{0, -1, "abcae"}, {0, 0, "a"}, {-1, -1, "e"}, {4, 4, "e"}, {1, 3, "bca"}, {-4, -2, "bca"}, {1, -2, "bca"}, {-4, 3, "bca"},
		{0, 4, "abcae"}, {0, 5, "abcae"}, {-5, -1, "abcae"}, {-6, -1, "abcae"}, {-6, 0, "a"}, {4, 9, "e"}, {-99, 99, "abcae"}, {-99, -5, "a"},
		{2, 1, ""}, {-1, -2, ""}, {-1, 0, ""}, {5, 5, ""}, {5, 9, ""}, {0, -6, ""}, {-99, -6, ""}, {-99, -98, ""}, {99, -99, ""},
		{math.MinInt, math.MaxInt, "abcae"}, {math.MaxInt, math.MinInt, ""}, {math.MinInt, math.MinInt, ""}, {math.MaxInt, math.MaxInt, ""},
	} {
		x := of(letters("abcae")...)
		if l, e := list.Range(x, c.from, c.to); !slices.Equal(l, letters(c.want)) || e != api.OK {
			t.Errorf("%d to %d: %q %d, must be %q", c.from, c.to, l, e, c.want)
		}
		if y, e := list.Trim(x, c.from, c.to); !is(y, letters(c.want)) || e != api.OK {
			t.Errorf("%d to %d: %v %d, must be %q", c.from, c.to, y, e, c.want)
		}
		if l, e := list.Range(nothing(), c.from, c.to); len(l) != 0 || e != api.OK {
			t.Errorf("%d to %d of nothing: %q %d", c.from, c.to, l, e)
		}
		if y, e := list.Trim(nothing(), c.from, c.to); !isZero(y) || e != api.OK {
			t.Errorf("%d to %d of nothing: %v %d", c.from, c.to, y, e)
		}
	}
}

func TestF1Remove(t *testing.T) {
	for _, c := range []struct {
		x    api.Item
		s    string
		rest []string
		n    int
	}{
		{of(letters("abaca")...), "a", letters("bc"), 3},
		{of(letters("abaca")...), "b", letters("aaca"), 1},
		{of(letters("abaca")...), "z", letters("abaca"), 0},
		{of(letters("abaca")...), "", letters("abaca"), 0},
		{of(letters("abaca")...), "A", letters("abaca"), 0},
		{of("a", "ab", "", "aba"), "ab", []string{"a", "", "aba"}, 1},
		{of("a", "", "b", ""), "", letters("ab"), 2},
		{of(letters("aaa")...), "a", nil, 3},
		{of("a"), "a", nil, 1},
		{of(""), "", nil, 1},
		{of(make([]string, 24)...), "", nil, 24},
		{of("a", long(60)), long(60), letters("a"), 1},
		{of("a", long(60)), long(61), []string{"a", long(60)}, 0},
		{nothing(), "a", nil, 0},
		{nothing(), "", nil, 0},
	} {
		y, n, e := list.Remove(c.x, c.s)
		if !is(y, c.rest) || n != c.n || e != api.OK {
			t.Errorf("%q without %q: %v %d %d", c.x.List, c.s, y, n, e)
		}
	}
}

// pushed are lists whose elements came in two goes, from one end.
func pushed(t *testing.T, left bool, l []string, cut int) api.Item {
	t.Helper()
	x := nothing()
	for _, part := range [][]string{l[:cut], l[cut:]} {
		if len(part) == 0 {
			continue
		}
		y, _, e := list.Push(x, left, part)
		if e != api.OK {
			t.Fatalf("%q: %d", part, e)
		}
		x = y
	}
	return x
}

func TestF2WhatIsPushedIsPopped(t *testing.T) {
	for _, n := range []int{1, 2, 3, 24} {
		for cut := range n + 1 {
			for _, left := range []bool{true, false} {
				l := names(n)
				popAll(t, pushed(t, left, l, cut), !left, l)
				slices.Reverse(l)
				popAll(t, pushed(t, left, names(n), cut), left, l)
			}
		}
	}
}

// popAll: these elements come, in that order, and nothing is left.
func popAll(t *testing.T, x api.Item, left bool, want []string) {
	t.Helper()
	for _, s := range want {
		y, got, e := list.Pop(x, left)
		if got != s || e != api.OK {
			t.Errorf("%q, left %v: %q %d, must be %q", x.List, left, got, e, s)
		}
		x = y
	}
	if !isZero(x) {
		t.Errorf("%v is left", x)
	}
}

func TestF2OneByOneIsAllAtOnce(t *testing.T) {
	for _, left := range []bool{true, false} {
		l := names(24)
		atOnce, _, _ := list.Push(nothing(), left, l)
		x := nothing()
		for i, s := range l {
			y, n, e := list.Push(x, left, []string{s})
			if n != i+1 || e != api.OK {
				t.Fatalf("%q: %d %d", s, n, e)
			}
			x = y
		}
		if !is(x, atOnce.List) {
			t.Errorf("left %v: %q and %q", left, x.List, atOnce.List)
		}
	}
}

type wrong struct {
	name string
	x    api.Item
	want api.Errno
}

// wrongs: items that are no right lists, nor nothing.
func wrongs() []wrong {
	return []wrong{
		{"no kind, but elements", api.Item{List: []string{"a"}}, api.ErrKind},
		{"no kind, but a text", api.Item{Text: "a"}, api.ErrKind},
		{"a kind too many", api.Item{Kind: 6, List: []string{"a"}}, api.ErrKind},
		{"a kind below 0", api.Item{Kind: -1}, api.ErrKind},
		{"a list with a text", api.Item{Kind: api.ItemList, Text: "x", List: []string{"a"}}, api.ErrForm},
		{"a list with pairs", api.Item{Kind: api.ItemList, List: []string{"a"}, Pairs: []api.Pair{{}}}, api.ErrForm},
		{"a list with scores", api.Item{Kind: api.ItemList, Scores: []api.Score{{}}}, api.ErrForm},
		{"a list without elements", of(), api.ErrNone},
		{"a list without elements, not nil", of([]string{}...), api.ErrNone},
		{"elements too many", of(make([]string, 25)...), api.ErrMany},
		{"an element too long", of("a", long(61)), api.ErrMany},
		{"a text", api.Item{Kind: api.ItemText, Text: "a"}, api.ErrKind},
		{"an empty text", api.Item{Kind: api.ItemText}, api.ErrKind},
		{"a set", api.Item{Kind: api.ItemSet, List: []string{"a", "b"}}, api.ErrKind},
		{"a hash", api.Item{Kind: api.ItemHash, Pairs: []api.Pair{{}}}, api.ErrKind},
		{"scores", api.Item{Kind: api.ItemScore, Scores: []api.Score{{}}}, api.ErrKind},
		{"a text too long", api.Item{Kind: api.ItemText, Text: long(61)}, api.ErrMany},
		{"a set that falls", api.Item{Kind: api.ItemSet, List: []string{"b", "a"}}, api.ErrState},
		{"a number out of range", api.Item{Kind: api.ItemScore, Scores: []api.Score{{N: api.MaxInt + 1}}}, api.ErrRange},
		{"a member twice", api.Item{Kind: api.ItemScore, Scores: []api.Score{{N: 1}, {N: 2}}}, api.ErrTwice},
	}
}

// TestP1ErrorsOfTheItem: they tell ahead of all others, and nothing else is answered.
func TestP1ErrorsOfTheItem(t *testing.T) {
	for _, c := range wrongs() {
		for _, left := range []bool{true, false} {
			for _, l := range [][]string{nil, {"a"}, {long(61)}, make([]string, 25)} {
				if y, n, e := list.Push(c.x, left, l); !isZero(y) || n != 0 || e != c.want {
					t.Errorf("%s: Push: %v %d %d, must be %d", c.name, y, n, e, c.want)
				}
			}
			if y, s, e := list.Pop(c.x, left); !isZero(y) || s != "" || e != c.want {
				t.Errorf("%s: Pop: %v %q %d, must be %d", c.name, y, s, e, c.want)
			}
		}
		for _, p := range [][2]int{{0, -1}, {1, 0}, {math.MinInt, math.MaxInt}} {
			if l, e := list.Range(c.x, p[0], p[1]); len(l) != 0 || e != c.want {
				t.Errorf("%s: Range: %q %d, must be %d", c.name, l, e, c.want)
			}
			if y, e := list.Trim(c.x, p[0], p[1]); !isZero(y) || e != c.want {
				t.Errorf("%s: Trim: %v %d, must be %d", c.name, y, e, c.want)
			}
		}
		for _, s := range []string{"a", "z", ""} {
			if y, n, e := list.Remove(c.x, s); !isZero(y) || n != 0 || e != c.want {
				t.Errorf("%s: Remove: %v %d %d, must be %d", c.name, y, n, e, c.want)
			}
		}
	}
}

// TestP2WhatIsHandedInIsOnlyRead: nor is the spare room behind it written, and an answer is not changed by a later change of it, nor it by one of an answer.
func TestP2WhatIsHandedInIsOnlyRead(t *testing.T) {
	calls := map[string]func(x api.Item, l []string) []string{
		"Push left":      func(x api.Item, l []string) []string { y, _, _ := list.Push(x, true, l); return y.List },
		"Push":           func(x api.Item, l []string) []string { y, _, _ := list.Push(x, false, l); return y.List },
		"Push left to 0": func(_ api.Item, l []string) []string { y, _, _ := list.Push(nothing(), true, l); return y.List },
		"Push to 0":      func(_ api.Item, l []string) []string { y, _, _ := list.Push(nothing(), false, l); return y.List },
		"Push to room": func(x api.Item, l []string) []string {
			y, _, _ := list.Push(api.Item{List: x.List[:0]}, false, l)
			return y.List
		},
		"Pop left":       func(x api.Item, _ []string) []string { y, _, _ := list.Pop(x, true); return y.List },
		"Pop":            func(x api.Item, _ []string) []string { y, _, _ := list.Pop(x, false); return y.List },
		"Range":          func(x api.Item, _ []string) []string { l, _ := list.Range(x, 0, 1); return l },
		"Range of all":   func(x api.Item, _ []string) []string { l, _ := list.Range(x, 0, -1); return l },
		"Trim":           func(x api.Item, _ []string) []string { y, _ := list.Trim(x, 0, 1); return y.List },
		"Trim of all":    func(x api.Item, _ []string) []string { y, _ := list.Trim(x, 0, -1); return y.List },
		"Remove":         func(x api.Item, _ []string) []string { y, _, _ := list.Remove(x, "b"); return y.List },
		"Remove of none": func(x api.Item, _ []string) []string { y, _, _ := list.Remove(x, "z"); return y.List },
	}
	for name, call := range calls {
		there, more := letters("abc-----"), letters("pq------")
		got := call(of(there[:3]...), more[:2])
		if !slices.Equal(there, letters("abc-----")) || !slices.Equal(more, letters("pq------")) {
			t.Errorf("%s: %q and %q then", name, there, more)
		}
		was := slices.Clone(got)
		for i := range there {
			there[i], more[i] = "!", "?"
		}
		if !slices.Equal(got, was) {
			t.Errorf("%s: %q, and was %q", name, got, was)
		}
		for i := range got[:cap(got)] {
			got[:cap(got)][i] = "x"
		}
		if slices.Contains(there, "x") || slices.Contains(more, "x") {
			t.Errorf("%s: an answer shares memory: %q and %q", name, there, more)
		}
	}
}
