package score_test

import (
	"fmt"
	"math"
	"reflect"
	"slices"
	"strconv"
	"strings"
	"testing"

	"springhouse/api"
	"springhouse/item"
	"springhouse/score"
)

const most, far, near = api.MaxInt, math.MaxInt, math.MinInt

func of(l ...api.Score) api.Item { return api.Item{Kind: api.ItemScore, Scores: l} }
func long(n int) string          { return strings.Repeat("L", n) }
func nothing() api.Item          { return api.Item{} }
func isZero(x any) bool          { return reflect.ValueOf(x).IsZero() }

// scores of words, each of which is a member, =, and its number.
func scores(words string) []api.Score {
	var l []api.Score
	for _, w := range strings.Fields(words) {
		member, number, _ := strings.Cut(w, "=")
		n, err := strconv.Atoi(number)
		if err != nil {
			panic(err)
		}
		l = append(l, api.Score{N: n, Member: member})
	}
	return l
}

// is: has an item just these scores, and nothing else? One without scores must be nothing.
func is(x api.Item, l []api.Score) bool {
	if len(l) == 0 {
		return isZero(x)
	}
	return item.Check(x) == api.OK && x.Kind == api.ItemScore && slices.Equal(x.Scores, l)
}

// names are n scores that rise by number, while their members fall.
func names(n int) []api.Score {
	var l []api.Score
	for i := range n {
		l = append(l, api.Score{N: i - 7, Member: strconv.Itoa(9999 - i)})
	}
	return l
}

// members of scores.
func members(l []api.Score) []string {
	var s []string
	for _, x := range l {
		s = append(s, x.Member)
	}
	return s
}

func TestI1Put(t *testing.T) {
	abc := of(scores("a=1 b=2 c=3")...)
	for _, c := range []struct {
		x    api.Item
		l    []api.Score
		want []api.Score
		n    int
	}{
		{nothing(), scores("a=1"), scores("a=1"), 1},
		{nothing(), scores("a=2 b=1"), scores("b=1 a=2"), 2},
		{nothing(), scores("b=1 a=1 =1 ab=1"), scores("=1 a=1 ab=1 b=1"), 4},
		{nothing(), scores("a=-1 b=-2 c=0 d=10 e=9"), scores("b=-2 a=-1 c=0 e=9 d=10"), 5},
		{nothing(), scores("a=1 a=2"), scores("a=2"), 1},
		{nothing(), scores("a=2 a=1"), scores("a=1"), 1},
		{nothing(), scores("a=3 b=2 a=1"), scores("a=1 b=2"), 2},
		{nothing(), make([]api.Score, 30), scores("=0"), 1},
		{nothing(), scores("a=999999999 b=-999999999"), scores("b=-999999999 a=999999999"), 2},
		{nothing(), scores("z=5 \xff=5 \x00=5"), scores("\x00=5 z=5 \xff=5"), 3},
		{nothing(), scores("a=5 A=5"), scores("A=5 a=5"), 2},
		{abc, scores("a=5"), scores("b=2 c=3 a=5"), 0},
		{abc, scores("c=0"), scores("c=0 a=1 b=2"), 0},
		{abc, scores("b=2"), scores("a=1 b=2 c=3"), 0},
		{abc, scores("b=3"), scores("a=1 b=3 c=3"), 0},
		{abc, scores("c=1 b=1"), scores("a=1 b=1 c=1"), 0},
		{abc, scores("a=9 a=8 a=2"), scores("a=2 b=2 c=3"), 0},
		{abc, scores("d=2"), scores("a=1 b=2 d=2 c=3"), 1},
		{abc, scores("z=-1 a=7 z=2 y=2"), scores("b=2 y=2 z=2 c=3 a=7"), 2},
		{abc, scores("=2"), scores("a=1 =2 b=2 c=3"), 1},
		{abc, scores(long(60) + "=2"), scores("a=1 " + long(60) + "=2 b=2 c=3"), 1},
	} {
		y, n, e := score.Put(c.x, c.l)
		if !is(y, c.want) || n != c.n || e != api.OK {
			t.Errorf("%v to %v: %v %d %d, must be %v %d", c.l, c.x.Scores, y, n, e, c.want, c.n)
		}
	}
}

func TestI1PutAsManyAsMayBe(t *testing.T) {
	all := names(50)
	for there := range 25 {
		x := nothing()
		if there > 0 {
			x = of(all[:there]...)
		}
		for put := 1; put < 26; put++ {
			// Members that are there, and those that come twice, do not count.
			l := slices.Concat(all[there:there+put], all[:there], all[there:there+put])
			y, n, e := score.Put(x, l)
			if there+put > 24 {
				if !isZero(y) || n != 0 || e != api.ErrMany {
					t.Errorf("%d to %d: %v %d %d", put, there, y, n, e)
				}
			} else if !is(y, all[:there+put]) || n != put || e != api.OK {
				t.Errorf("%d to %d: %v %d %d", put, there, y, n, e)
			}
		}
	}
}

func TestI1PutErrors(t *testing.T) {
	full := of(names(24)...)
	high, tooLong := api.Score{N: most + 1, Member: "a"}, api.Score{Member: long(61)}
	both := api.Score{N: -most - 1, Member: long(61)}
	for _, c := range []struct {
		name string
		x    api.Item
		l    []api.Score
		want api.Errno
	}{
		{"none to nothing", nothing(), nil, api.ErrForm},
		{"none, not nil", nothing(), []api.Score{}, api.ErrForm},
		{"none to some", of(names(2)...), nil, api.ErrForm},
		{"none to a full one", full, nil, api.ErrForm},
		{"a number too great", nothing(), []api.Score{{N: most + 1}}, api.ErrRange},
		{"a number too small", nothing(), []api.Score{{N: -most - 1}}, api.ErrRange},
		{"the greatest number of all", nothing(), []api.Score{{N: far}}, api.ErrRange},
		{"the least number of all", nothing(), []api.Score{{N: near}}, api.ErrRange},
		{"the last number too great", of(names(2)...), []api.Score{{}, high}, api.ErrRange},
		{"a number too great, and a later one in its place", nothing(), []api.Score{high, {N: 1, Member: "a"}}, api.ErrRange},
		{"a number too great in a member's place", of(scores("a=1")...), []api.Score{high}, api.ErrRange},
		{"a member too long", nothing(), []api.Score{tooLong}, api.ErrMany},
		{"the last member too long", of(names(2)...), []api.Score{{}, tooLong}, api.ErrMany},
		{"of one score the number first", nothing(), []api.Score{both}, api.ErrRange},
		{"too long, then too great", nothing(), []api.Score{tooLong, high}, api.ErrMany},
		{"too great, then too long", nothing(), []api.Score{high, tooLong}, api.ErrRange},
		{"too long, then both", nothing(), []api.Score{{}, tooLong, both}, api.ErrMany},
		{"one to a full one", full, []api.Score{{}}, api.ErrMany},
		{"one that is there, one that is not", full, scores("9999=5 z=5"), api.ErrMany},
		{"one more than may be", nothing(), names(25), api.ErrMany},
		{"very many", nothing(), names(1000), api.ErrMany},
		{"too many, and a number too great", nothing(), append(names(30), high), api.ErrRange},
		{"a number too great to a full one", full, []api.Score{high}, api.ErrRange},
	} {
		y, n, e := score.Put(c.x, c.l)
		if !isZero(y) || n != 0 || e != c.want {
			t.Errorf("%s: %v %d %d, must be %d", c.name, y, n, e, c.want)
		}
	}
}

func TestI1Drop(t *testing.T) {
	bac := of(scores("b=-1 a=2 c=2")...)
	for _, c := range []struct {
		x    api.Item
		l    []string
		want []api.Score
		n    int
	}{
		{bac, []string{"a"}, scores("b=-1 c=2"), 1},
		{bac, []string{"c", "b"}, scores("a=2"), 2},
		{bac, []string{"a", "a", "a"}, scores("b=-1 c=2"), 1},
		{bac, []string{"z", "a", "z", "2"}, scores("b=-1 c=2"), 1},
		{bac, []string{"A", "", "2", long(61)}, scores("b=-1 a=2 c=2"), 0},
		{bac, nil, scores("b=-1 a=2 c=2"), 0},
		{bac, []string{}, scores("b=-1 a=2 c=2"), 0},
		{bac, []string{"c", "b", "a"}, nil, 3},
		{of(scores("a=1 =2")...), []string{""}, scores("a=1"), 1},
		{of(scores("a=1")...), []string{"a"}, nil, 1},
		{of(names(24)...), members(names(23)), names(24)[23:], 23},
		{of(names(24)...), members(names(1000)), nil, 24},
		{nothing(), nil, nil, 0},
		{nothing(), []string{"", "a"}, nil, 0},
	} {
		y, n, e := score.Drop(c.x, c.l)
		if !is(y, c.want) || n != c.n || e != api.OK {
			t.Errorf("%v without %q: %v %d %d, must be %v %d", c.x.Scores, c.l, y, n, e, c.want, c.n)
		}
	}
}

func TestI1NumberAndRank(t *testing.T) {
	x := of(scores("z=-999999999 b=-1 =0 a=2 ab=2 y=999999999")...)
	for member, want := range map[string][2]int{"z": {-most, 0}, "b": {-1, 1}, "": {0, 2}, "a": {2, 3}, "ab": {2, 4}, "y": {most, 5}} {
		if n, e := score.Number(x, member); n != want[0] || e != api.OK {
			t.Errorf("number of %q: %d %d, must be %d", member, n, e, want[0])
		}
		if n, e := score.Rank(x, member); n != want[1] || e != api.OK {
			t.Errorf("rank of %q: %d %d, must be %d", member, n, e, want[1])
		}
	}
	for _, y := range []api.Item{x, nothing(), of(names(24)...)} {
		for _, member := range []string{"A", "abc", "c", "0", "2", "a ", long(60), long(61)} {
			if n, e := score.Number(y, member); n != 0 || e != api.ErrNone {
				t.Errorf("number of %q: %d %d", member, n, e)
			}
			if n, e := score.Rank(y, member); n != 0 || e != api.ErrNone {
				t.Errorf("rank of %q: %d %d", member, n, e)
			}
		}
	}
	if n, e := score.Number(of(api.Score{N: 7, Member: long(60)}), long(60)); n != 7 || e != api.OK {
		t.Errorf("%d %d", n, e)
	}
}

func TestI1Range(t *testing.T) {
	x := of(scores("d=-1 a=2 c=2 b=9")...)
	for _, c := range []struct {
		from, to int
		want     string
	}{
		{0, -1, "d a c b"}, {0, 0, "d"}, {-1, -1, "b"}, {1, 2, "a c"}, {2, 1, ""}, {-3, -2, "a c"}, {-2, 1, ""}, {-3, 1, "a"}, {1, -3, "a"}, {3, 3, "b"},
		{-4, 3, "d a c b"}, {-5, 0, "d"}, {-99, 99, "d a c b"}, {3, 99, "b"}, {4, 99, ""}, {-99, -5, ""}, {-99, -4, "d"},
		{near, far, "d a c b"}, {far, near, ""}, {far, far, ""}, {near, near, ""}, {0, far, "d a c b"}, {near, -1, "d a c b"},
	} {
		if l, e := score.Range(x, c.from, c.to); !slices.Equal(l, strings.Fields(c.want)) || e != api.OK {
			t.Errorf("%d to %d: %q %d, must be %q", c.from, c.to, l, e, c.want)
		}
		if l, e := score.Range(nothing(), c.from, c.to); len(l) > 0 || e != api.OK {
			t.Errorf("%d to %d of nothing: %q %d", c.from, c.to, l, e)
		}
	}
	if l, e := score.Range(of(names(24)...), 0, -1); !slices.Equal(l, members(names(24))) || e != api.OK {
		t.Errorf("%q %d", l, e)
	}
}

func TestI1Within(t *testing.T) {
	x := of(scores("z=-999999999 d=-1 a=2 c=2 b=9 y=999999999")...)
	for _, c := range []struct {
		least, most int
		want        string
	}{
		{-1, 9, "d a c b"}, {0, 8, "a c"}, {2, 2, "a c"}, {-1, -1, "d"}, {-2, -2, ""}, {3, 8, ""}, {9, -1, ""}, {3, 2, ""}, {2, 1, ""}, {-1, 1, "d"}, {-1, 2, "d a c"}, {2, 9, "a c b"}, {3, 9, "b"},
		{-most, most, "z d a c b y"}, {1 - most, most - 1, "d a c b"}, {-most, -most, "z"}, {most, most, "y"}, {-most, -2, "z"}, {10, most, "y"},
		{near, far, "z d a c b y"}, {near, -most - 1, ""}, {most + 1, far, ""}, {far, near, ""}, {near, near, ""}, {far, far, ""}, {near, 2, "z d a c"}, {2, far, "a c b y"},
	} {
		if l, e := score.Within(x, c.least, c.most); !slices.Equal(l, strings.Fields(c.want)) || e != api.OK {
			t.Errorf("%d to %d: %q %d, must be %q", c.least, c.most, l, e, c.want)
		}
		if l, e := score.Within(nothing(), c.least, c.most); len(l) > 0 || e != api.OK {
			t.Errorf("%d to %d of nothing: %q %d", c.least, c.most, l, e)
		}
	}
}

// some items: each that gives a, ab and b, or only some of them, a number from -1 to 1; nothing is one of them.
func some() []api.Item {
	var l []api.Item
	for k := range 64 {
		var have []api.Score
		for i, member := range []string{"a", "ab", "b"} {
			if n := k >> (2 * i) & 3; n < 3 {
				have = append(have, api.Score{N: n - 1, Member: member})
			}
		}
		slices.SortFunc(have, func(a, b api.Score) int {
			if a.N != b.N {
				return a.N - b.N
			}
			return strings.Compare(a.Member, b.Member)
		})
		if len(have) == 0 {
			l = append(l, nothing())
		} else {
			l = append(l, of(have...))
		}
	}
	return l
}

// numbers: what Number says of some members, those that are there alone.
func numbers(x api.Item) map[string]int {
	m := map[string]int{}
	for _, member := range []string{"", "a", "ab", "b", "c"} {
		if n, e := score.Number(x, member); e == api.OK {
			m[member] = n
		} else if e != api.ErrNone {
			panic(fmt.Sprint(x, member, e))
		}
	}
	return m
}

func TestI1WhatIsPutHasItsNumber(t *testing.T) {
	words := []string{"a=1", "a=-1", "ab=0", "b=1", "=0", "a=0"}
	for _, x := range some() {
		for _, u := range words {
			for _, v := range words {
				for _, w := range words {
					l := scores(u + " " + v + " " + w)
					want := numbers(x)
					for _, s := range l {
						want[s.Member] = s.N
					}
					y, n, e := score.Put(x, l)
					if item.Check(y) != api.OK || !reflect.DeepEqual(numbers(y), want) || n != len(want)-len(x.Scores) || e != api.OK {
						t.Errorf("%v to %v: %v %d %d", l, x.Scores, y, n, e)
					}
				}
			}
		}
	}
}

func TestI1OneByOneIsAllAtOnce(t *testing.T) {
	l := scores("b=1 a=2 b=3 c=4 a=-5 =1 c=-7 b=1")
	for _, x := range some() {
		atOnce, n, _ := score.Put(x, l)
		y, sum := x, 0
		for _, s := range l {
			z, k, e := score.Put(y, []api.Score{s})
			if e != api.OK {
				t.Fatalf("%v: %d", s, e)
			}
			y, sum = z, sum+k
		}
		if !is(y, atOnce.Scores) || sum != n {
			t.Errorf("%v: %v %d and %v %d", x.Scores, y, sum, atOnce, n)
		}
	}
}

func TestI2RanksArePlaces(t *testing.T) {
	for _, x := range append(some(), of(names(24)...)) {
		for i, s := range x.Scores {
			if rank, e := score.Rank(x, s.Member); rank != i || e != api.OK {
				t.Errorf("rank of %q in %v: %d %d", s.Member, x.Scores, rank, e)
			}
			for _, place := range []int{i, i - len(x.Scores)} {
				if l, e := score.Range(x, place, place); !slices.Equal(l, []string{s.Member}) || e != api.OK {
					t.Errorf("place %d of %v: %q %d", place, x.Scores, l, e)
				}
			}
		}
	}
}

// TestI2WithinIsARange: that from how many numbers are less to how many are not more.
func TestI2WithinIsARange(t *testing.T) {
	for _, x := range append(some(), of(names(24)...)) {
		for least := -9; least <= 20; least++ {
			for most := -9; most <= 20; most++ {
				from, to := 0, -1
				for _, s := range x.Scores {
					if s.N < least {
						from++
					}
					if s.N <= most {
						to++
					}
				}
				var want []string
				if to >= 0 {
					want, _ = score.Range(x, from, to)
				}
				if l, e := score.Within(x, least, most); !slices.Equal(l, want) || e != api.OK {
					t.Errorf("%d to %d of %v: %q %d, must be %q", least, most, x.Scores, l, e, want)
				}
			}
		}
	}
}

type wrong struct {
	name string
	x    api.Item
	want api.Errno
}

// wrongs: items that are no right scores, nor nothing.
func wrongs() []wrong {
	return []wrong{
		{"no kind, but scores", api.Item{Scores: scores("a=1")}, api.ErrKind},
		{"no kind, but a text", api.Item{Text: "a"}, api.ErrKind},
		{"a kind too many", api.Item{Kind: 6, Scores: scores("a=1")}, api.ErrKind},
		{"a kind below 0", api.Item{Kind: -1}, api.ErrKind},
		{"scores with a text", api.Item{Kind: api.ItemScore, Text: "x", Scores: scores("a=1")}, api.ErrForm},
		{"scores with a list", api.Item{Kind: api.ItemScore, Scores: scores("a=1"), List: []string{""}}, api.ErrForm},
		{"scores with pairs", api.Item{Kind: api.ItemScore, Pairs: []api.Pair{{}}}, api.ErrForm},
		{"no scores", of(), api.ErrNone},
		{"no scores, not nil", of([]api.Score{}...), api.ErrNone},
		{"scores too many", of(names(25)...), api.ErrMany},
		{"a member too long", of(scores("a=1 " + long(61) + "=2")...), api.ErrMany},
		{"a number too great", of(scores("a=1 b=1000000000")...), api.ErrRange},
		{"a number too small", of(scores("b=-1000000000 a=1")...), api.ErrRange},
		{"a member twice", of(scores("a=1 a=2")...), api.ErrTwice},
		{"a score twice", of(scores("a=1 a=1")...), api.ErrTwice},
		{"numbers that fall", of(scores("a=2 b=1")...), api.ErrState},
		{"members that fall", of(scores("b=1 a=1")...), api.ErrState},
		{"a text", api.Item{Kind: api.ItemText, Text: "a"}, api.ErrKind},
		{"an empty text", api.Item{Kind: api.ItemText}, api.ErrKind},
		{"a list", api.Item{Kind: api.ItemList, List: []string{"a"}}, api.ErrKind},
		{"a set", api.Item{Kind: api.ItemSet, List: []string{"a", "b"}}, api.ErrKind},
		{"a hash", api.Item{Kind: api.ItemHash, Pairs: []api.Pair{{Field: "a"}}}, api.ErrKind},
		{"a text too long", api.Item{Kind: api.ItemText, Text: long(61)}, api.ErrMany},
		{"a set that falls", api.Item{Kind: api.ItemSet, List: []string{"b", "a"}}, api.ErrState},
		{"a list without elements", api.Item{Kind: api.ItemList}, api.ErrNone},
	}
}

// TestP1ErrorsOfTheItem: they tell ahead of all others, and nothing else is answered.
func TestP1ErrorsOfTheItem(t *testing.T) {
	for _, c := range wrongs() {
		for _, l := range [][]api.Score{nil, scores("a=1"), {{N: far}}, {{Member: long(61)}}, names(25)} {
			if y, n, e := score.Put(c.x, l); !isZero(y) || n != 0 || e != c.want {
				t.Errorf("%s: Put: %v %d %d, must be %d", c.name, y, n, e, c.want)
			}
		}
		for _, l := range [][]string{nil, {"a"}, {"z", ""}, {long(61)}} {
			if y, n, e := score.Drop(c.x, l); !isZero(y) || n != 0 || e != c.want {
				t.Errorf("%s: Drop: %v %d %d, must be %d", c.name, y, n, e, c.want)
			}
		}
		for _, s := range []string{"a", "z", ""} {
			if n, e := score.Number(c.x, s); n != 0 || e != c.want {
				t.Errorf("%s: Number: %d %d, must be %d", c.name, n, e, c.want)
			}
			if n, e := score.Rank(c.x, s); n != 0 || e != c.want {
				t.Errorf("%s: Rank: %d %d, must be %d", c.name, n, e, c.want)
			}
		}
		for _, r := range [][2]int{{0, -1}, {-1, 1}, {0, 9}, {2, 1}, {near, far}, {far, near}} {
			if l, e := score.Range(c.x, r[0], r[1]); len(l) > 0 || e != c.want {
				t.Errorf("%s: Range: %q %d, must be %d", c.name, l, e, c.want)
			}
			if l, e := score.Within(c.x, r[0], r[1]); len(l) > 0 || e != c.want {
				t.Errorf("%s: Within: %q %d, must be %d", c.name, l, e, c.want)
			}
		}
	}
}

// calls: each answers scores, of an item, of scores and of members.
func calls() map[string]func(x api.Item, l []api.Score, s []string) []api.Score {
	return map[string]func(x api.Item, l []api.Score, s []string) []api.Score{
		"Put": func(x api.Item, l []api.Score, _ []string) []api.Score { y, _, _ := score.Put(x, l); return y.Scores },
		"Put to room": func(x api.Item, l []api.Score, _ []string) []api.Score {
			y, _, _ := score.Put(api.Item{Scores: x.Scores[:0]}, l)
			return y.Scores
		},
		"Put as it is": func(x api.Item, _ []api.Score, _ []string) []api.Score {
			y, _, _ := score.Put(x, scores("b=2"))
			return y.Scores
		},
		"Drop": func(x api.Item, _ []api.Score, s []string) []api.Score { y, _, _ := score.Drop(x, s); return y.Scores },
		"Drop of none": func(x api.Item, _ []api.Score, _ []string) []api.Score {
			y, _, _ := score.Drop(x, nil)
			return y.Scores
		},
		"Range": func(x api.Item, _ []api.Score, _ []string) []api.Score {
			m, _ := score.Range(x, 0, -1)
			return make([]api.Score, len(m))
		},
		"Within": func(x api.Item, _ []api.Score, _ []string) []api.Score {
			m, _ := score.Within(x, 1, 3)
			return make([]api.Score, len(m))
		},
		"Number": func(x api.Item, _ []api.Score, _ []string) []api.Score {
			n, _ := score.Number(x, "b")
			return []api.Score{{N: n}}
		},
	}
}

// TestP2WhatIsHandedInIsOnlyRead: nor is the spare room behind it written, and an answer is not changed by a later change of it, nor it by one of an answer.
func TestP2WhatIsHandedInIsOnlyRead(t *testing.T) {
	const there, more = "a=1 b=2 c=3 -=9 -=9 -=9 -=9", "q=4 b=0 p=2 -=9 -=9 -=9 -=9"
	for name, call := range calls() {
		x, l, s := scores(there), scores(more), []string{"z", "b", "-", "-"}
		answer := call(of(x[:3]...), l[:3], s[:2])
		if !slices.Equal(x, scores(there)) || !slices.Equal(l, scores(more)) || !slices.Equal(s, []string{"z", "b", "-", "-"}) {
			t.Errorf("%s: %v, %v and %q then", name, x, l, s)
		}
		was := slices.Clone(answer)
		for i := range x {
			x[i], l[i] = api.Score{Member: "!"}, api.Score{Member: "?"}
		}
		if !slices.Equal(answer, was) || len(answer) == 0 {
			t.Errorf("%s: %v, and was %v", name, answer, was)
		}
		for i := range answer[:cap(answer)] {
			answer[:cap(answer)][i] = api.Score{Member: "x"}
		}
		if slices.Contains(x, api.Score{Member: "x"}) || slices.Contains(l, api.Score{Member: "x"}) {
			t.Errorf("%s: an answer shares memory: %v and %v", name, x, l)
		}
	}
}

// TestP3TheSameEachTime: the order in which a map is gone through is not to be seen.
func TestP3TheSameEachTime(t *testing.T) {
	turned := names(24)
	slices.Reverse(turned)
	alike := strings.Fields("l k j i h g f e d c b a")
	for range 50 {
		if y, n, e := score.Put(nothing(), turned); !is(y, names(24)) || n != 24 || e != api.OK {
			t.Fatalf("%v %d %d", y, n, e)
		}
		y, _, _ := score.Put(nothing(), scores(strings.Join(alike, "=7 ")+"=7"))
		if l, _ := score.Range(y, 0, -1); !slices.Equal(l, slices.Sorted(slices.Values(alike))) {
			t.Fatalf("%q", l)
		}
	}
}
