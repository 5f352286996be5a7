package set_test

import (
	"reflect"
	"slices"
	"strconv"
	"strings"
	"testing"

	"springhouse/api"
	"springhouse/item"
	"springhouse/set"
)

func of(l ...string) api.Item { return api.Item{Kind: api.ItemSet, List: l} }
func long(n int) string       { return strings.Repeat("L", n) }
func nothing() api.Item       { return api.Item{} }
func isZero(x any) bool       { return reflect.ValueOf(x).IsZero() }

// letters of a text, each a text.
func letters(s string) []string { return strings.Split(s, "") }

// is: has an item just these members, and nothing else? One without members must be nothing.
func is(x api.Item, l []string) bool {
	if len(l) == 0 {
		return isZero(x)
	}
	return item.Check(x) == api.OK && x.Kind == api.ItemSet && slices.Equal(x.List, l)
}

// names are n members that rise.
func names(n int) []string {
	var l []string
	for i := range n {
		l = append(l, strconv.Itoa(100+i))
	}
	return l
}

func TestG1Add(t *testing.T) {
	for _, c := range []struct {
		x    api.Item
		l    []string
		want []string
		n    int
	}{
		{nothing(), letters("p"), letters("p"), 1},
		{nothing(), letters("rpq"), letters("pqr"), 3},
		{nothing(), letters("papa"), letters("ap"), 2},
		{nothing(), []string{""}, []string{""}, 1},
		{of("a"), letters("a"), letters("a"), 0},
		{of("b"), letters("a"), letters("ab"), 1},
		{of("b"), letters("c"), letters("bc"), 1},
		{of("a", "c"), letters("bbb"), letters("abc"), 1},
		{of("a", "c"), letters("dcbad"), letters("abcd"), 2},
		{of("a", "c"), letters("ca"), letters("ac"), 0},
		{of("ab"), []string{"abc", "a", "", "b", "aa"}, []string{"", "a", "aa", "ab", "abc", "b"}, 5},
		{of("a"), []string{"A", "\xff", "\x00", "é", "z"}, []string{"\x00", "A", "a", "z", "é", "\xff"}, 5},
		{of("a"), []string{long(60)}, []string{long(60), "a"}, 1},
	} {
		y, n, e := set.Add(c.x, c.l)
		if !is(y, c.want) || n != c.n || e != api.OK {
			t.Errorf("%q to %q: %v %d %d, must be %q %d", c.l, c.x.List, y, n, e, c.want, c.n)
		}
	}
}

func TestG1AddAsManyAsMayBe(t *testing.T) {
	all := names(50)
	for there := range 25 {
		x := nothing()
		if there > 0 {
			x = of(all[:there]...)
		}
		for added := 1; added < 26; added++ {
			// Those that are there, and those that come twice, do not count.
			l := slices.Concat(all[there:there+added], all[:there], all[there:there+added])
			y, n, e := set.Add(x, l)
			if there+added > 24 {
				if !isZero(y) || n != 0 || e != api.ErrMany {
					t.Errorf("%d to %d: %v %d %d", added, there, y, n, e)
				}
			} else if !is(y, all[:there+added]) || n != added || e != api.OK {
				t.Errorf("%d to %d: %v %d %d", added, there, y, n, e)
			}
		}
	}
}

func TestG1AddOneVeryOften(t *testing.T) {
	if y, n, e := set.Add(nothing(), make([]string, 100000)); !is(y, []string{""}) || n != 1 || e != api.OK {
		t.Errorf("%v %d %d", y, n, e)
	}
	full := names(24)
	if y, n, e := set.Add(of(full...), full); !is(y, full) || n != 0 || e != api.OK {
		t.Errorf("%v %d %d", y, n, e)
	}
}

func TestG1AddErrors(t *testing.T) {
	full := of(names(24)...)
	for _, c := range []struct {
		name string
		x    api.Item
		l    []string
		want api.Errno
	}{
		{"none to nothing", nothing(), nil, api.ErrForm},
		{"none, not nil", nothing(), []string{}, api.ErrForm},
		{"none to some", of("a"), nil, api.ErrForm},
		{"none to a full one", full, nil, api.ErrForm},
		{"one too long", nothing(), []string{long(61)}, api.ErrMany},
		{"the first one too long", of("a"), []string{long(61), "p", ""}, api.ErrMany},
		{"the last one too long", of("a"), []string{"", "p", long(61)}, api.ErrMany},
		{"one to a full one", full, []string{""}, api.ErrMany},
		{"one more than may be", nothing(), names(25), api.ErrMany},
		{"very many", nothing(), names(1000), api.ErrMany},
	} {
		y, n, e := set.Add(c.x, c.l)
		if !isZero(y) || n != 0 || e != c.want {
			t.Errorf("%s: %v %d %d, must be %d", c.name, y, n, e, c.want)
		}
	}
}

func TestG1Remove(t *testing.T) {
	for _, c := range []struct {
		x    api.Item
		l    []string
		want []string
		n    int
	}{
		{of("a", "b", "c"), letters("b"), letters("ac"), 1},
		{of("a", "b", "c"), letters("ca"), letters("b"), 2},
		{of("a", "b", "c"), letters("aaa"), letters("bc"), 1},
		{of("a", "b", "c"), letters("zBx"), letters("abc"), 0},
		{of("a", "b", "c"), letters("zaza"), letters("bc"), 1},
		{of("a", "b", "c"), nil, letters("abc"), 0},
		{of("a", "b", "c"), []string{}, letters("abc"), 0},
		{of("a", "b", "c"), []string{""}, letters("abc"), 0},
		{of("a", "b", "c"), letters("cba"), nil, 3},
		{of("a"), letters("a"), nil, 1},
		{of(""), []string{""}, nil, 1},
		{of("", "a", "ab", "abc"), []string{"ab", ""}, []string{"a", "abc"}, 2},
		{of(long(60), "a"), []string{long(61)}, []string{long(60), "a"}, 0},
		{of(long(60), "a"), []string{long(60)}, letters("a"), 1},
		{of(names(24)...), names(23), []string{"123"}, 23},
		{of(names(24)...), names(1000), nil, 24},
		{nothing(), nil, nil, 0},
		{nothing(), letters("ab"), nil, 0},
		{nothing(), []string{""}, nil, 0},
	} {
		y, n, e := set.Remove(c.x, c.l)
		if !is(y, c.want) || n != c.n || e != api.OK {
			t.Errorf("%q without %q: %v %d %d, must be %q %d", c.x.List, c.l, y, n, e, c.want, c.n)
		}
	}
}

func TestG1Has(t *testing.T) {
	for _, c := range []struct {
		x    api.Item
		s    string
		want bool
	}{
		{of("a", "b", "c"), "a", true},
		{of("a", "b", "c"), "b", true},
		{of("a", "b", "c"), "c", true},
		{of("a", "b", "c"), "d", false},
		{of("a", "b", "c"), "B", false},
		{of("a", "b", "c"), "", false},
		{of("", "a"), "", true},
		{of("ab"), "a", false},
		{of("a"), "ab", false},
		{of(long(60)), long(60), true},
		{of(long(60)), long(61), false},
		{nothing(), "a", false},
		{nothing(), "", false},
	} {
		if ok, e := set.Has(c.x, c.s); ok != c.want || e != api.OK {
			t.Errorf("%q in %q: %v %d", c.s, c.x.List, ok, e)
		}
	}
}

func TestG1MeetJoinLess(t *testing.T) {
	abc, bcd, x := of("a", "b", "c"), of("b", "c", "d"), of("x")
	for _, c := range []struct {
		l                []api.Item
		meet, join, less string
	}{
		{[]api.Item{abc}, "abc", "abc", "abc"},
		{[]api.Item{abc, bcd}, "bc", "abcd", "a"},
		{[]api.Item{bcd, abc}, "bc", "abcd", "d"},
		{[]api.Item{abc, abc}, "abc", "abc", ""},
		{[]api.Item{abc, x}, "", "abcx", "abc"},
		{[]api.Item{x, abc, bcd}, "", "abcdx", "x"},
		{[]api.Item{abc, bcd, of("c", "e")}, "c", "abcde", "a"},
		{[]api.Item{abc, of("a"), of("b"), of("c")}, "", "abc", ""},
		{[]api.Item{abc, of("a"), of("a")}, "a", "abc", "bc"},
		{[]api.Item{nothing()}, "", "", ""},
		{[]api.Item{nothing(), nothing()}, "", "", ""},
		{[]api.Item{nothing(), abc}, "", "abc", ""},
		{[]api.Item{abc, nothing()}, "", "abc", "abc"},
		{[]api.Item{abc, nothing(), bcd}, "", "abcd", "a"},
		{[]api.Item{abc, abc, nothing()}, "", "abc", ""},
	} {
		meet, e := set.Meet(c.l)
		join, f := set.Join(c.l)
		less, g := set.Less(c.l)
		if !slices.Equal(meet, letters(c.meet)) || !slices.Equal(join, letters(c.join)) || !slices.Equal(less, letters(c.less)) {
			t.Errorf("%v: %q, %q, %q", c.l, meet, join, less)
		}
		if e != api.OK || f != api.OK || g != api.OK {
			t.Errorf("%v: %d, %d, %d", c.l, e, f, g)
		}
	}
}

// TestG1Rising: byte by byte, a shorter one that is a beginning ahead.
func TestG1Rising(t *testing.T) {
	all := []string{"", "\x00", "A", "B", "a", "aB", "ab", "aba", "b", "z", "é", "\xff"}
	even, odd := nothing(), nothing()
	for i, s := range all {
		if i%2 == 0 {
			even, _, _ = set.Add(even, []string{s})
		} else {
			odd, _, _ = set.Add(odd, []string{s})
		}
	}
	if l, _ := set.Join([]api.Item{odd, even}); !slices.Equal(l, all) {
		t.Errorf("Join: %q", l)
	}
	if l, _ := set.Meet([]api.Item{of(all...), of(all...)}); !slices.Equal(l, all) {
		t.Errorf("Meet: %q", l)
	}
	if l, _ := set.Less([]api.Item{of(all...), nothing()}); !slices.Equal(l, all) {
		t.Errorf("Less: %q", l)
	}
}

// TestG1JoinOfMany: members that are answered are no item, so there may be more than an item has.
func TestG1JoinOfMany(t *testing.T) {
	all := names(480)
	var l []api.Item
	for i := 0; i < len(all); i += 24 {
		l = append(l, of(all[i:i+24]...))
	}
	slices.Reverse(l)
	if got, e := set.Join(l); !slices.Equal(got, all) || e != api.OK {
		t.Errorf("%q %d", got, e)
	}
}

func TestG1NoItems(t *testing.T) {
	for _, l := range [][]api.Item{nil, {}} {
		for name, call := range manyCalls() {
			if got, e := call(l); len(got) != 0 || e != api.ErrForm {
				t.Errorf("%s: %q %d", name, got, e)
			}
		}
	}
}

func manyCalls() map[string]func([]api.Item) ([]string, api.Errno) {
	return map[string]func([]api.Item) ([]string, api.Errno){"Meet": set.Meet, "Join": set.Join, "Less": set.Less}
}

// TestG1ItemsOneByOne: the first item of which something is wrong tells.
func TestG1ItemsOneByOne(t *testing.T) {
	right := []api.Item{nothing(), of("a")}
	for name, call := range manyCalls() {
		for _, c := range wrongs() {
			for _, x := range right {
				for _, l := range [][]api.Item{{c.x}, {c.x, x}, {x, c.x}, {x, x, c.x, x}} {
					if got, e := call(l); len(got) != 0 || e != c.want {
						t.Errorf("%s, %s: %q %d, must be %d", name, c.name, got, e, c.want)
					}
				}
				for _, d := range wrongs() {
					if got, e := call([]api.Item{x, c.x, d.x}); len(got) != 0 || e != c.want {
						t.Errorf("%s, %s, then %s: %q %d, must be %d", name, c.name, d.name, got, e, c.want)
					}
				}
			}
		}
	}
}

// some sets: each that has members of a, b, ab alone; nothing is one of them.
func some() []api.Item {
	var l []api.Item
	for bits := range 8 {
		x := nothing()
		for i, s := range []string{"a", "b", "ab"} {
			if bits>>i&1 == 1 {
				x, _, _ = set.Add(x, []string{s})
			}
		}
		l = append(l, x)
	}
	return l
}

// in: is each of these one of those?
func in(l, those []string) bool {
	return !slices.ContainsFunc(l, func(s string) bool { return !slices.Contains(those, s) })
}

func TestG2MeetInEachEachInJoin(t *testing.T) {
	for _, x := range some() {
		for _, y := range some() {
			for _, z := range some() {
				l := []api.Item{x, y, z}
				meet, _ := set.Meet(l)
				join, _ := set.Join(l)
				for _, w := range l {
					if !in(meet, w.List) || !in(w.List, join) {
						t.Errorf("%v: %q and %q", l, meet, join)
					}
				}
			}
		}
	}
}

func TestG2LessAndMeetAreTheFirst(t *testing.T) {
	for _, x := range some() {
		for _, y := range some() {
			for _, z := range some() {
				less, _ := set.Less([]api.Item{x, y, z})
				others, _ := set.Join([]api.Item{y, z})
				joined := nothing()
				if len(others) > 0 {
					joined = of(others...)
				}
				meet, _ := set.Meet([]api.Item{x, joined})
				whole := slices.Concat(less, meet)
				slices.Sort(whole) // one that is in both would be there twice
				if !slices.Equal(whole, x.List) {
					t.Errorf("%q, %q and %q: %q and %q", x.List, y.List, z.List, less, meet)
				}
			}
		}
	}
}

func TestG2WhatIsAddedIsThere(t *testing.T) {
	for _, x := range some() {
		for _, y := range some() {
			if len(y.List) == 0 {
				continue
			}
			z, n, _ := set.Add(x, y.List)
			join, _ := set.Join([]api.Item{x, y})
			if !is(z, join) || n != len(join)-len(x.List) {
				t.Errorf("%q to %q: %v %d", y.List, x.List, z, n)
			}
			z, n, _ = set.Remove(x, y.List)
			less, _ := set.Less([]api.Item{x, y})
			if !is(z, less) || n != len(x.List)-len(less) {
				t.Errorf("%q without %q: %v %d", x.List, y.List, z, n)
			}
		}
	}
}

type wrong struct {
	name string
	x    api.Item
	want api.Errno
}

// wrongs: items that are no right sets, nor nothing.
func wrongs() []wrong {
	return []wrong{
		{"no kind, but members", api.Item{List: []string{"a"}}, api.ErrKind},
		{"no kind, but a text", api.Item{Text: "a"}, api.ErrKind},
		{"a kind too many", api.Item{Kind: 6, List: []string{"a"}}, api.ErrKind},
		{"a kind below 0", api.Item{Kind: -1}, api.ErrKind},
		{"a set with a text", api.Item{Kind: api.ItemSet, Text: "x", List: []string{"a"}}, api.ErrForm},
		{"a set with pairs", api.Item{Kind: api.ItemSet, List: []string{"a"}, Pairs: []api.Pair{{}}}, api.ErrForm},
		{"a set with scores", api.Item{Kind: api.ItemSet, Scores: []api.Score{{}}}, api.ErrForm},
		{"a set without members", of(), api.ErrNone},
		{"a set without members, not nil", of([]string{}...), api.ErrNone},
		{"members too many", of(names(25)...), api.ErrMany},
		{"a member too long", of("A", long(61)), api.ErrMany},
		{"a member too long, and they fall", of("a", long(61)), api.ErrMany},
		{"a set that falls", of("b", "a"), api.ErrState},
		{"a member twice", of("a", "a"), api.ErrState},
		{"a beginning behind", of("ab", "a"), api.ErrState},
		{"a text", api.Item{Kind: api.ItemText, Text: "a"}, api.ErrKind},
		{"an empty text", api.Item{Kind: api.ItemText}, api.ErrKind},
		{"a list", api.Item{Kind: api.ItemList, List: []string{"a", "b"}}, api.ErrKind},
		{"a hash", api.Item{Kind: api.ItemHash, Pairs: []api.Pair{{}}}, api.ErrKind},
		{"scores", api.Item{Kind: api.ItemScore, Scores: []api.Score{{}}}, api.ErrKind},
		{"a text too long", api.Item{Kind: api.ItemText, Text: long(61)}, api.ErrMany},
		{"a list without elements", api.Item{Kind: api.ItemList}, api.ErrNone},
		{"a number out of range", api.Item{Kind: api.ItemScore, Scores: []api.Score{{N: api.MaxInt + 1}}}, api.ErrRange},
		{"a score's member twice", api.Item{Kind: api.ItemScore, Scores: []api.Score{{N: 1}, {N: 2}}}, api.ErrTwice},
	}
}

// TestP1ErrorsOfTheItem: they tell ahead of all others, and nothing else is answered.
func TestP1ErrorsOfTheItem(t *testing.T) {
	for _, c := range wrongs() {
		for _, l := range [][]string{nil, {"a"}, {long(61)}, names(25)} {
			if y, n, e := set.Add(c.x, l); !isZero(y) || n != 0 || e != c.want {
				t.Errorf("%s: Add: %v %d %d, must be %d", c.name, y, n, e, c.want)
			}
			if y, n, e := set.Remove(c.x, l); !isZero(y) || n != 0 || e != c.want {
				t.Errorf("%s: Remove: %v %d %d, must be %d", c.name, y, n, e, c.want)
			}
		}
		for _, s := range []string{"a", "z", ""} {
			if ok, e := set.Has(c.x, s); ok || e != c.want {
				t.Errorf("%s: Has: %v %d, must be %d", c.name, ok, e, c.want)
			}
		}
	}
}

// calls: each answers a list, of a set and members.
func calls() map[string]func(x api.Item, l []string) []string {
	return map[string]func(x api.Item, l []string) []string{
		"Add":      func(x api.Item, l []string) []string { y, _, _ := set.Add(x, l); return y.List },
		"Add to 0": func(_ api.Item, l []string) []string { y, _, _ := set.Add(nothing(), l); return y.List },
		"Add to room": func(x api.Item, l []string) []string {
			y, _, _ := set.Add(api.Item{List: x.List[:0]}, l)
			return y.List
		},
		"Add those there": func(x api.Item, _ []string) []string { y, _, _ := set.Add(x, []string{"a"}); return y.List },
		"Remove":          func(x api.Item, _ []string) []string { y, _, _ := set.Remove(x, []string{"a"}); return y.List },
		"Remove of none":  func(x api.Item, l []string) []string { y, _, _ := set.Remove(x, l); return y.List },
		"Remove nothing":  func(x api.Item, _ []string) []string { y, _, _ := set.Remove(x, nil); return y.List },
		"Meet":            func(x api.Item, _ []string) []string { l, _ := set.Meet([]api.Item{x}); return l },
		"Meet of two":     func(x api.Item, _ []string) []string { l, _ := set.Meet([]api.Item{x, of("a", "c")}); return l },
		"Join":            func(x api.Item, _ []string) []string { l, _ := set.Join([]api.Item{x}); return l },
		"Join of two":     func(x api.Item, _ []string) []string { l, _ := set.Join([]api.Item{x, of("d")}); return l },
		"Less":            func(x api.Item, _ []string) []string { l, _ := set.Less([]api.Item{x}); return l },
		"Less of two":     func(x api.Item, _ []string) []string { l, _ := set.Less([]api.Item{x, of("a")}); return l },
	}
}

// TestP2WhatIsHandedInIsOnlyRead: nor is the spare room behind it written, and an answer is not changed by a later change of it, nor it by one of an answer.
func TestP2WhatIsHandedInIsOnlyRead(t *testing.T) {
	for name, call := range calls() {
		there, more := letters("abc-----"), letters("qp------")
		got := call(of(there[:3]...), more[:2])
		if !slices.Equal(there, letters("abc-----")) || !slices.Equal(more, letters("qp------")) {
			t.Errorf("%s: %q and %q then", name, there, more)
		}
		was := slices.Clone(got)
		for i := range there {
			there[i], more[i] = "!", "?"
		}
		if !slices.Equal(got, was) || len(got) == 0 {
			t.Errorf("%s: %q, and was %q", name, got, was)
		}
		for i := range got[:cap(got)] {
			got[:cap(got)][i] = "x"
		}
		if slices.Contains(there, "x") || slices.Contains(more, "x") {
			t.Errorf("%s: an answer shares memory: %q and %q", name, there, more)
		}
	}
}

// TestP2ItemsAreOnlyRead: nor are the items of a list of them others then, nor those in the room behind.
func TestP2ItemsAreOnlyRead(t *testing.T) {
	for name, call := range manyCalls() {
		l := []api.Item{of("b", "c"), nothing(), of("a", "b"), of("z")}
		call(l[:3])
		if !reflect.DeepEqual(l, []api.Item{of("b", "c"), nothing(), of("a", "b"), of("z")}) {
			t.Errorf("%s: %v then", name, l)
		}
	}
}

// TestP3TheSameEachTime: the order in which a map is gone through is not to be seen.
func TestP3TheSameEachTime(t *testing.T) {
	l := []api.Item{of(names(24)...), of(names(20)...)}
	for range 50 {
		meet, _ := set.Meet(l)
		join, _ := set.Join(l)
		less, _ := set.Less(l)
		if !slices.Equal(meet, names(20)) || !slices.Equal(join, names(24)) || !slices.Equal(less, names(24)[20:]) {
			t.Fatalf("%q, %q, %q", meet, join, less)
		}
	}
}
