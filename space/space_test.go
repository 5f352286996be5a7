package space_test

import (
	"fmt"
	"math"
	"reflect"
	"slices"
	"strings"
	"testing"

	"springhouse/api"
	"springhouse/item"
	"springhouse/space"
)

const end, far, near = api.MaxTime, math.MaxInt, math.MinInt

func long(n int) string      { return strings.Repeat("L", n) }
func nothing() api.Item      { return api.Item{} }
func text(s string) api.Item { return api.Item{Kind: api.ItemText, Text: s} }
func isZero(x any) bool      { return reflect.ValueOf(x).IsZero() }

// of keys: each has its own text, and is there until its time.
func of(until int, keys ...string) api.Space {
	var s api.Space
	for _, key := range keys {
		s = append(s, api.Entry{Key: key, Item: text("of " + key[:min(len(key), 9)]), Until: until})
	}
	return s
}

// names are n keys that rise.
func names(n int) []string {
	var l []string
	for i := range n {
		l = append(l, fmt.Sprint("n", 100+i))
	}
	return l
}

// mix: some that are for ever, some that go at 5, 6 and at the end of times.
func mix() api.Space {
	return api.Space{
		{Key: "", Item: text("empty")},
		{Key: "a", Item: text("goes at 5"), Until: 5},
		{Key: "ab", Item: api.Item{Kind: api.ItemList, List: []string{"x", "", "x"}}, Until: 6},
		{Key: "b", Item: api.Item{Kind: api.ItemSet, List: []string{"", "x"}}},
		{Key: "c", Item: api.Item{Kind: api.ItemHash, Pairs: []api.Pair{{Field: "f", Value: "1"}}}, Until: end},
		{Key: "d", Item: api.Item{Kind: api.ItemScore, Scores: []api.Score{{N: -1, Member: "z"}, {N: 2, Member: "y"}}}, Until: 5},
		{Key: long(60), Item: text("")},
	}
}

// sorted: the same entries, rising by key.
func sorted(s api.Space) api.Space {
	slices.SortFunc(s, func(a, b api.Entry) int { return strings.Compare(a.Key, b.Key) })
	return s
}

// same: two spaces have the same entries; an empty list may be nil or not.
func same(a, b api.Space) bool { return fmt.Sprint(a) == fmt.Sprint(b) && len(a) == len(b) }

// keysOf a space: all of them, those that are gone too.
func keysOf(s api.Space) string {
	var l []string
	for _, entry := range s {
		l = append(l, entry.Key)
	}
	return strings.Join(l, " ")
}

type wrong struct {
	name string
	s    api.Space
	want api.Errno
}

// wrongs: spaces that are not right.
func wrongs() []wrong {
	a, b := text("a"), text("b")
	falls := api.Item{Kind: api.ItemSet, List: []string{"b", "a"}}
	return []wrong{
		{"too many keys", of(0, names(17)...), api.ErrMany},
		{"too many, gone or not", of(1, names(17)...), api.ErrMany},
		{"too many empty entries", make(api.Space, 17), api.ErrMany},
		{"too many, and all else wrong", slices.Repeat(api.Space{{Key: "", Item: falls, Until: -1}}, 17), api.ErrMany},
		{"a key too long", of(0, long(61)), api.ErrMany},
		{"a key too long, and its item wrong", api.Space{{Key: long(61), Item: falls}}, api.ErrMany},
		{"an item that is nothing", api.Space{{Key: "a"}}, api.ErrKind},
		{"an item of no kind", api.Space{{Key: "a", Item: api.Item{Kind: 6}}}, api.ErrKind},
		{"an item with too much", api.Space{{Key: "a", Item: api.Item{Kind: api.ItemText, List: []string{""}}}}, api.ErrForm},
		{"an empty list", api.Space{{Key: "a", Item: api.Item{Kind: api.ItemList}}}, api.ErrNone},
		{"a text too long", api.Space{{Key: "a", Item: text(long(61))}}, api.ErrMany},
		{"a set that falls", api.Space{{Key: "a", Item: falls}}, api.ErrState},
		{"a number out of range", api.Space{{Key: "a", Item: api.Item{Kind: api.ItemScore, Scores: []api.Score{{N: api.MaxInt + 1}}}}}, api.ErrRange},
		{"a member twice", api.Space{{Key: "a", Item: api.Item{Kind: api.ItemScore, Scores: []api.Score{{N: 1}, {N: 2}}}}}, api.ErrTwice},
		{"an item wrong, and until", api.Space{{Key: "a", Item: falls, Until: -1}}, api.ErrState},
		{"until below 0", of(-1, "a"), api.ErrRange},
		{"until too late", of(end+1, "a"), api.ErrRange},
		{"until far too late", of(far, "a"), api.ErrRange},
		{"until far below 0", of(near, "a"), api.ErrRange},
		{"keys that fall", of(0, "b", "a"), api.ErrState},
		{"a key twice", of(0, "a", "a"), api.ErrState},
		{"a key twice, one gone", api.Space{{Key: "a", Item: a, Until: 1}, {Key: "a", Item: a}}, api.ErrState},
		{"an empty key behind", of(0, "a", ""), api.ErrState},
		{"a beginning behind", of(0, "ab", "a"), api.ErrState},
		{"bytes from 128 on ahead", of(0, "\xff", "\x7f"), api.ErrState},
		{"great letters behind", of(0, "a", "B"), api.ErrState},
		{"the last one falls", of(0, "a", "b", "d", "c"), api.ErrState},
		{"the last item wrong", append(of(0, "a", "b"), api.Entry{Key: "c", Item: falls}), api.ErrState},
		// One by one: what is wrong with the first one tells, whatever the others are.
		{"until, then a key too long", append(of(-1, "a"), of(0, long(61))...), api.ErrRange},
		{"a key too long, then until", append(of(0, long(61)), of(-1, "a")...), api.ErrMany},
		{"until, then keys that fall", api.Space{{Key: "b", Item: b, Until: -1}, {Key: "a", Item: a}}, api.ErrRange},
		{"until of the one that falls", api.Space{{Key: "b", Item: b}, {Key: "a", Item: a, Until: -1}}, api.ErrRange},
		{"keys that fall, then until", append(of(0, "b", "a"), of(-1, "c")...), api.ErrState},
		{"keys that fall, then an item", append(of(0, "b", "a"), api.Entry{Key: "c"}), api.ErrState},
		{"an item, then keys that fall", append(api.Space{{Key: "c"}}, of(0, "b", "a")...), api.ErrKind},
	}
}

func TestJ1Check(t *testing.T) {
	for _, s := range []api.Space{nil, {}, of(0, ""), of(0, "a"), of(1, "a"), of(end, "a"), of(0, "", "a", "ab", "b"), of(0, "B", "a", "\x7f", "\x80", "\xff"), of(0, long(59), long(60)), of(7, names(16)...), sorted(mix())} {
		if e := space.Check(s); e != api.OK {
			t.Errorf("%v: %d", s, e)
		}
	}
	for _, c := range wrongs() {
		if e := space.Check(c.s); e != c.want {
			t.Errorf("%s: %d, must be %d", c.name, e, c.want)
		}
	}
}

// answers: what each call but Check says of a space, at a time, of a key and of a pattern; and whether all but the errors is as with an error.
func answers(s api.Space, now int, key, pattern string, x api.Item, until int) (errs [5]api.Errno, empty bool) {
	got, e0 := space.Get(s, now, key)
	put, e1 := space.Put(s, now, key, x, until)
	n, e2 := space.Until(s, now, key)
	keys, e3 := space.Keys(s, now, pattern)
	left, went, e4 := space.Sweep(s, now)
	return [5]api.Errno{e0, e1, e2, e3, e4}, isZero(got) && len(put) == 0 && n == 0 && len(keys) == 0 && len(left) == 0 && went == 0
}

// TestJ1ErrorsOfAllOthers: of the space ahead of the time, that ahead of the key, that ahead of all that follow.
func TestJ1ErrorsOfAllOthers(t *testing.T) {
	falls := api.Item{Kind: api.ItemSet, List: []string{"b", "a"}}
	all := func(e api.Errno) [5]api.Errno { return [5]api.Errno{e, e, e, e, e} }
	for _, c := range wrongs() {
		for _, now := range []int{-1, 0, end, far} {
			for _, key := range []string{"a", long(61)} {
				if errs, empty := answers(c.s, now, key, "[", falls, -1); errs != all(c.want) || !empty {
					t.Errorf("%s at %d: %d %v, must be %d", c.name, now, errs, empty, c.want)
				}
			}
		}
	}
	s := sorted(mix())
	for _, now := range []int{-1, end + 1, near, far} {
		for _, key := range []string{"a", long(61)} {
			if errs, empty := answers(s, now, key, "[", falls, -1); errs != all(api.ErrRange) || !empty {
				t.Errorf("at %d: %d %v", now, errs, empty)
			}
		}
	}
	for _, now := range []int{0, 5, end} {
		want := [5]api.Errno{api.ErrMany, api.ErrMany, api.ErrMany, api.ErrMany, api.OK}
		if errs, _ := answers(s, now, long(61), long(61), falls, -1); errs != want {
			t.Errorf("at %d: %d", now, errs)
		}
	}
}

func TestJ2Get(t *testing.T) {
	s := sorted(mix())
	for _, now := range []int{0, 4, 5, 6, 7, end - 1, end} {
		for _, entry := range mix() {
			want := entry.Item
			if entry.Until != 0 && now >= entry.Until {
				want = nothing()
			}
			if x, e := space.Get(s, now, entry.Key); !reflect.DeepEqual(x, want) || e != api.OK {
				t.Errorf("%q at %d: %v %d, must be %v", entry.Key, now, x, e, want)
			}
		}
		for _, key := range []string{"A", "aa", "abc", "e", " ", long(59)} {
			if x, e := space.Get(s, now, key); !isZero(x) || e != api.OK {
				t.Errorf("%q at %d: %v %d", key, now, x, e)
			}
		}
		if x, e := space.Get(nil, now, "a"); !isZero(x) || e != api.OK {
			t.Errorf("of none at %d: %v %d", now, x, e)
		}
	}
}

func TestJ2Until(t *testing.T) {
	s := sorted(mix())
	for _, now := range []int{0, 4, 5, 6, 7, end - 1, end} {
		for _, entry := range mix() {
			want, err := entry.Until, api.OK
			if entry.Until != 0 && now >= entry.Until {
				want, err = 0, api.ErrNone
			}
			if n, e := space.Until(s, now, entry.Key); n != want || e != err {
				t.Errorf("%q at %d: %d %d, must be %d %d", entry.Key, now, n, e, want, err)
			}
		}
		for _, key := range []string{"A", "aa", "abc", "e", " ", long(59)} {
			if n, e := space.Until(s, now, key); n != 0 || e != api.ErrNone {
				t.Errorf("%q at %d: %d %d", key, now, n, e)
			}
		}
	}
}

func TestJ2Keys(t *testing.T) {
	s := append(of(5, "a", "a1"), of(0, "a2", "ab", "b", "b]")...)
	for _, c := range []struct {
		now           int
		pattern, want string
	}{
		{0, "*", "a a1 a2 ab b b]"},
		{4, "*", "a a1 a2 ab b b]"},
		{5, "*", "a2 ab b b]"},
		{end, "*", "a2 ab b b]"},
		{4, "a?", "a1 a2 ab"},
		{5, "a?", "a2 ab"},
		{4, "a", "a"},
		{5, "a", ""},
		{4, "a[0-9]", "a1 a2"},
		{5, "a[^0-9]", "ab"},
		{4, "*b*", "ab b b]"},
		{4, "b]", "b]"},
		{4, `\a`, "a"},
		{4, "", ""},
		{4, "A*", ""},
		{4, long(60), ""},
	} {
		if l, e := space.Keys(s, c.now, c.pattern); strings.Join(l, " ") != c.want || e != api.OK {
			t.Errorf("%q at %d: %q %d, must be %q", c.pattern, c.now, l, e, c.want)
		}
	}
	if l, e := space.Keys(of(0, "", "a"), 0, ""); !slices.Equal(l, []string{""}) || e != api.OK {
		t.Errorf("the empty key: %q %d", l, e)
	}
}

// TestJ2KeysErrors: what is wrong with a pattern tells whichever keys there are.
func TestJ2KeysErrors(t *testing.T) {
	for _, s := range []api.Space{nil, {}, of(0, "a", "b"), of(1, "a"), of(0, names(16)...)} {
		for pattern, want := range map[string]api.Errno{"[": api.ErrForm, "a[]": api.ErrForm, "[b-a]": api.ErrForm, "\\": api.ErrForm, long(61): api.ErrMany, "[" + long(60): api.ErrMany} {
			if l, e := space.Keys(s, 3, pattern); len(l) > 0 || e != want {
				t.Errorf("%q: %q %d, must be %d", pattern, l, e, want)
			}
		}
	}
}

func TestJ2Put(t *testing.T) {
	list := api.Item{Kind: api.ItemList, List: []string{"x", "y"}}
	for _, c := range []struct {
		name  string
		s     api.Space
		now   int
		key   string
		x     api.Item
		until int
		want  api.Space
	}{
		{"to none", nil, 0, "k", list, 0, api.Space{{Key: "k", Item: list}}},
		{"an empty text is not nothing", nil, 0, "", text(""), 7, api.Space{{Key: "", Item: text(""), Until: 7}}},
		{"ahead", of(0, "b"), 0, "a", text("of a"), 0, of(0, "a", "b")},
		{"behind", of(0, "a"), 0, "b", text("of b"), 0, of(0, "a", "b")},
		{"behind a beginning", of(0, "a", "b"), 0, "ab", text("of ab"), 0, of(0, "a", "ab", "b")},
		{"an empty key", of(0, "a"), 0, "", text("of "), 0, of(0, "", "a")},
		{"the last byte", of(0, "a", "\x7f"), 0, "\xff", text("of \xff"), 0, of(0, "a", "\x7f", "\xff")},
		{"a long key", of(0, "a"), 0, long(60), text("of " + long(9)), 0, of(0, long(60), "a")},
		{"in the place of another", of(0, "a", "b", "c"), 0, "b", list, 0, api.Space{of(0, "a")[0], {Key: "b", Item: list}, of(0, "c")[0]}},
		{"until when it is, anew", of(9, "a"), 1, "a", text("of a"), 20, of(20, "a")},
		{"for ever, anew", of(9, "a"), 1, "a", text("of a"), 0, of(0, "a")},
		{"no more for ever", of(0, "a"), 1, "a", text("of a"), 2, of(2, "a")},
		{"in the place of one that is gone", of(5, "a"), 5, "a", text("of a"), 9, of(9, "a")},
		{"beside one that is gone", of(5, "a"), 5, "b", text("of b"), 0, append(of(5, "a"), of(0, "b")...)},
		{"nothing", of(0, "a", "b", "c"), 0, "b", nothing(), 0, of(0, "a", "c")},
		{"nothing, its lists not nil", of(0, "a"), 0, "a", api.Item{List: []string{}, Pairs: []api.Pair{}, Scores: []api.Score{}}, 0, nil},
		{"nothing till some time", of(0, "a", "b"), 3, "b", nothing(), 4, of(0, "a")},
		{"nothing by a key that is not there", of(0, "a"), 0, "b", nothing(), 0, of(0, "a")},
		{"nothing by a key that is gone", of(5, "a", "b"), 5, "b", nothing(), 0, of(5, "a")},
		{"nothing to none", nil, 0, "a", nothing(), 0, nil},
	} {
		y, e := space.Put(c.s, c.now, c.key, c.x, c.until)
		if !same(y, c.want) || e != api.OK || space.Check(y) != api.OK {
			t.Errorf("%s: %v %d, must be %v", c.name, y, e, c.want)
		}
	}
}

func TestJ2PutUntil(t *testing.T) {
	for _, x := range []api.Item{text("x"), nothing()} {
		for _, now := range []int{0, 1, 5, end - 1, end} {
			for _, until := range []int{near, -1, 0, 1, 2, 4, 5, 6, end - 1, end, end + 1, far} {
				y, e := space.Put(of(0, "a"), now, "k", x, until)
				if until != 0 && (until < now+1 || until > end) {
					if len(y) > 0 || e != api.ErrRange {
						t.Errorf("at %d till %d: %v %d", now, until, y, e)
					}
					continue
				}
				want := of(0, "a")
				if !isZero(x) {
					want = append(want, api.Entry{Key: "k", Item: x, Until: until})
				}
				if !same(y, want) || e != api.OK {
					t.Errorf("at %d till %d: %v %d", now, until, y, e)
				}
			}
		}
	}
}

// TestJ2PutMakesRoom: what is gone goes only if there would be too many else, and then all of it.
func TestJ2PutMakesRoom(t *testing.T) {
	for there := range 17 {
		for gone := range there + 1 {
			s := of(0, names(there)...)
			for i := range gone {
				s[i*(there-1)/max(gone-1, 1)].Until = 5 // some that lie apart, the first one and the last one among them
			}
			gone := len(slices.DeleteFunc(slices.Clone(s), func(e api.Entry) bool { return e.Until == 0 }))
			stay := slices.DeleteFunc(slices.Clone(s), func(e api.Entry) bool { return e.Until == 5 })
			for now, left := range map[int]api.Space{4: s, 5: stay} {
				y, e := space.Put(s, now, "new", text("x"), 0)
				if there < 16 {
					left = s
				}
				if len(left) == 16 {
					if len(y) > 0 || e != api.ErrMany {
						t.Errorf("%d of %d gone, at %d: %v %d", gone, there, now, y, e)
					}
					continue
				}
				want := sorted(append(slices.Clone(left), api.Entry{Key: "new", Item: text("x")}))
				if !same(y, want) || e != api.OK {
					t.Errorf("%d of %d gone, at %d: %s %d", gone, there, now, keysOf(y), e)
				}
			}
		}
	}
}

// TestJ2PutToAFullOne: what there is room for needs none to go.
func TestJ2PutToAFullOne(t *testing.T) {
	s := of(0, names(16)...)
	s[3].Until, s[7].Until = 5, 5
	for _, key := range []string{"n100", "n103", "n115"} {
		y, e := space.Put(s, 9, key, text("x"), 0)
		if keysOf(y) != keysOf(s) || e != api.OK {
			t.Errorf("in place of %s: %s %d", key, keysOf(y), e)
		}
		if x, _ := space.Get(y, 9, key); x.Text != "x" {
			t.Errorf("in place of %s: %v", key, x)
		}
	}
	if y, e := space.Put(s, 9, "n100", nothing(), 0); keysOf(y) != keysOf(s[1:]) || e != api.OK {
		t.Errorf("nothing by a key: %s %d", keysOf(y), e)
	}
	if y, e := space.Put(s, 9, "new", nothing(), 0); keysOf(y) != keysOf(s) || e != api.OK {
		t.Errorf("nothing by another key: %s %d", keysOf(y), e)
	}
}

func TestJ2PutErrors(t *testing.T) {
	full, falls := of(0, names(16)...), api.Item{Kind: api.ItemSet, List: []string{"b", "a"}}
	for _, c := range []struct {
		name  string
		s     api.Space
		x     api.Item
		until int
		want  api.Errno
	}{
		{"no kind, but a text", nil, api.Item{Text: "x"}, 0, api.ErrKind},
		{"a kind too many", nil, api.Item{Kind: 6}, 0, api.ErrKind},
		{"a text with a list", nil, api.Item{Kind: api.ItemText, List: []string{""}}, 0, api.ErrForm},
		{"an empty set", nil, api.Item{Kind: api.ItemSet}, 0, api.ErrNone},
		{"a text too long", nil, text(long(61)), 0, api.ErrMany},
		{"a set that falls", nil, falls, 0, api.ErrState},
		{"a number out of range", nil, api.Item{Kind: api.ItemScore, Scores: []api.Score{{N: -api.MaxInt - 1}}}, 0, api.ErrRange},
		{"a member twice", nil, api.Item{Kind: api.ItemScore, Scores: []api.Score{{N: 1}, {N: 2}}}, 0, api.ErrTwice},
		{"an item ahead of until", nil, falls, -1, api.ErrState},
		{"an item ahead of too many", full, falls, 0, api.ErrState},
		{"until ahead of too many", full, text("x"), 9, api.ErrRange},
		{"too many", full, text("x"), 10, api.ErrMany},
	} {
		if y, e := space.Put(c.s, 9, "k", c.x, c.until); len(y) > 0 || e != c.want {
			t.Errorf("%s: %v %d, must be %d", c.name, y, e, c.want)
		}
	}
}

func TestJ2Sweep(t *testing.T) {
	s := sorted(mix())
	for now, want := range map[int]string{0: "", 4: "", 5: "a d", 6: "a ab d", end - 1: "a ab d", end: "a ab c d"} {
		var stay api.Space
		for _, entry := range s {
			if !slices.Contains(strings.Fields(want), entry.Key) {
				stay = append(stay, entry)
			}
		}
		y, n, e := space.Sweep(s, now)
		if !same(y, stay) || n != len(strings.Fields(want)) || e != api.OK {
			t.Errorf("at %d: %v %d %d", now, y, n, e)
		}
	}
	for _, now := range []int{0, end} {
		if y, n, e := space.Sweep(nil, now); len(y) != 0 || n != 0 || e != api.OK {
			t.Errorf("none: %v %d %d", y, n, e)
		}
	}
	if y, n, e := space.Sweep(of(1, names(16)...), 1); len(y) != 0 || n != 16 || e != api.OK {
		t.Errorf("all: %v %d %d", y, n, e)
	}
}

func TestJ2WhatWasPutLastIsGot(t *testing.T) {
	for _, s := range []api.Space{nil, of(3, "a", "b", "c"), of(0, "a", "ab", "b"), sorted(mix()), of(3, names(16)...)} {
		for _, key := range []string{"a", "ab", "b", "new", "n103"} {
			for _, until := range []int{0, 4, end} {
				first, e := space.Put(s, 3, key, text("first"), 9)
				if e != api.OK {
					t.Fatalf("%q to %s: %d", key, keysOf(s), e)
				}
				y, _ := space.Put(first, 3, key, text("last"), until)
				x, _ := space.Get(y, 3, key)
				if n, e := space.Until(y, 3, key); x.Text != "last" || n != until || e != api.OK {
					t.Errorf("%q to %s: %v %d %d", key, keysOf(s), x, n, e)
				}
				if until == 4 {
					if x, _ := space.Get(y, 4, key); !isZero(x) {
						t.Errorf("%q to %s, at 4: %v", key, keysOf(s), x)
					}
				}
				y, _ = space.Put(y, 3, key, nothing(), until)
				if x, _ := space.Get(y, 3, key); !isZero(x) {
					t.Errorf("%q, then nothing: %v", key, x)
				}
				if seen(t, y, 3, key) != seen(t, s, 3, key) {
					t.Errorf("%q to %s: others are other", key, keysOf(s))
				}
			}
		}
	}
}

// seen: all that calls say of a space at a time, but of one key.
func seen(t *testing.T, s api.Space, now int, but string) string {
	t.Helper()
	told := ""
	for _, key := range append(strings.Fields("a ab b c d e new "+long(60)), append(names(17), "")...) {
		if key == but {
			continue
		}
		x, e := space.Get(s, now, key)
		n, f := space.Until(s, now, key)
		l, g := space.Keys(s, now, key)
		told += fmt.Sprintf("%q: %v %d; %d %d; %q %d\n", key, x, e, n, f, l, g)
	}
	return told
}

func TestJ3ASweepChangesNothingThatIsSeen(t *testing.T) {
	for _, s := range []api.Space{nil, sorted(mix()), of(5, names(16)...), of(6, names(16)...), append(of(5, "a", "b"), of(0, "c", "d")...)} {
		for _, now := range []int{0, 4, 5, 6, end} {
			y, n, e := space.Sweep(s, now)
			if e != api.OK || space.Check(y) != api.OK || n != len(s)-len(y) {
				t.Fatalf("%v at %d: %v %d %d", s, now, y, n, e)
			}
			for _, later := range []int{now, now + 1, end} {
				if later > end {
					continue
				}
				if seen(t, s, later, "none") != seen(t, y, later, "none") {
					t.Errorf("%v swept at %d, seen at %d", s, now, later)
				}
				a, _ := space.Keys(s, later, "*")
				b, _ := space.Keys(y, later, "*")
				if !slices.Equal(a, b) {
					t.Errorf("%v swept at %d, keys at %d: %q and %q", s, now, later, a, b)
				}
				put, f := space.Put(s, later, "new", text("x"), 0)
				other, g := space.Put(y, later, "new", text("x"), 0)
				if f != g || seen(t, put, later, "none") != seen(t, other, later, "none") {
					t.Errorf("%v swept at %d, put at %d: %d and %d", s, now, later, f, g)
				}
			}
			if again, n, e := space.Sweep(y, now); !same(again, y) || n != 0 || e != api.OK {
				t.Errorf("%v swept again: %v %d %d", s, again, n, e)
			}
		}
	}
}

// roomy: a space whose lists have spare room behind them, as it has itself.
func roomy() api.Space {
	strs := func() []string { return []string{"x", "y", "-", "-"}[:2] }
	s := append(make(api.Space, 0, 20),
		api.Entry{Key: "h", Item: api.Item{Kind: api.ItemHash, Pairs: []api.Pair{{Field: "f"}, {Field: "-"}}[:1]}},
		api.Entry{Key: "l", Item: api.Item{Kind: api.ItemList, List: strs()}},
		api.Entry{Key: "s", Item: api.Item{Kind: api.ItemSet, List: strs()}, Until: 5},
		api.Entry{Key: "z", Item: api.Item{Kind: api.ItemScore, Scores: []api.Score{{N: 1}, {N: -9}}[:1]}})
	return s
}

// spoil all that an item's lists and the room behind them have.
func spoil(x api.Item) {
	for i := range x.List[:cap(x.List)] {
		x.List[:cap(x.List)][i] = "spoilt"
	}
	for i := range x.Pairs[:cap(x.Pairs)] {
		x.Pairs[:cap(x.Pairs)][i] = api.Pair{Field: "spoilt"}
	}
	for i := range x.Scores[:cap(x.Scores)] {
		x.Scores[:cap(x.Scores)][i] = api.Score{Member: "spoilt"}
	}
}

// spoilAll: the space too.
func spoilAll(s api.Space) {
	for i := range s[:cap(s)] {
		spoil(s[:cap(s)][i].Item)
		s[:cap(s)][i] = api.Entry{Key: "spoilt"}
	}
}

// whole: what a space tells with all the room behind it and behind its lists.
func whole(s api.Space) string {
	told := ""
	for _, e := range s[:cap(s)] {
		told += fmt.Sprintf("%q %d %q %q %q %v %d; ", e.Key, e.Item.Kind, e.Item.Text, e.Item.List[:cap(e.Item.List)], e.Item.Pairs[:cap(e.Item.Pairs)], e.Item.Scores[:cap(e.Item.Scores)], e.Until)
	}
	return told
}

// calls: each answers a space, of a space and an item (Get answers one in an entry).
func calls() map[string]func(s api.Space, x api.Item) api.Space {
	get := func(key string) func(s api.Space, _ api.Item) api.Space {
		return func(s api.Space, _ api.Item) api.Space {
			x, _ := space.Get(s, 1, key)
			return api.Space{{Item: x}}
		}
	}
	put := func(now int, key string) func(s api.Space, x api.Item) api.Space {
		return func(s api.Space, x api.Item) api.Space { y, _ := space.Put(s, now, key, x, 0); return y }
	}
	return map[string]func(s api.Space, x api.Item) api.Space{
		"Get h": get("h"), "Get l": get("l"), "Get s": get("s"), "Get z": get("z"),
		"Put ahead": put(1, "a"), "Put behind": put(9, "zz"), "Put between": put(9, "m"), "Put in a place": put(1, "l"),
		"Put nothing":    func(s api.Space, _ api.Item) api.Space { y, _ := space.Put(s, 1, "h", nothing(), 0); return y },
		"Put no nothing": func(s api.Space, _ api.Item) api.Space { y, _ := space.Put(s, 1, "no", nothing(), 0); return y },
		"Put to none":    func(s api.Space, x api.Item) api.Space { y, _ := space.Put(s[:0], 1, "k", x, 0); return y },
		"Sweep":          func(s api.Space, _ api.Item) api.Space { y, _, _ := space.Sweep(s, 9); return y },
		"Sweep, none":    func(s api.Space, _ api.Item) api.Space { y, _, _ := space.Sweep(s, 1); return y },
		"Keys and others": func(s api.Space, _ api.Item) api.Space {
			space.Keys(s, 9, "*")
			space.Until(s, 9, "l")
			space.Check(s)
			return of(0, "k")
		},
	}
}

// TestP2WhatIsHandedInIsOnlyRead: nor is the spare room behind it written, and an answer is not changed by a later change of it, nor it by one of an answer.
func TestP2WhatIsHandedInIsOnlyRead(t *testing.T) {
	for name, call := range calls() {
		for i := range roomy() {
			s, x := roomy(), roomy()[i].Item
			answer := call(s, x)
			if whole(s) != whole(roomy()) || whole(api.Space{{Item: x}}) != whole(api.Space{{Item: roomy()[i].Item}}) {
				t.Errorf("%s: %s, %s then", name, whole(s), whole(api.Space{{Item: x}}))
			}
			was := fmt.Sprint(answer)
			if len(answer) == 0 {
				t.Errorf("%s: no answer", name)
			}
			spoilAll(s)
			spoil(x)
			if fmt.Sprint(answer) != was {
				t.Errorf("%s: %v, and was %s", name, answer, was)
			}
			s, x = roomy(), roomy()[i].Item
			answer = call(s, x)
			spoilAll(answer)
			if whole(s) != whole(roomy()) || strings.Contains(whole(api.Space{{Item: x}}), "spoilt") {
				t.Errorf("%s: an answer shares memory: %s", name, whole(s))
			}
		}
	}
}

// TestP2NoTwoListsShareMemory: not even if those that were handed in do.
func TestP2NoTwoListsShareMemory(t *testing.T) {
	shared := []string{"x", "y", "z"}
	l := api.Item{Kind: api.ItemList, List: shared}
	s := api.Space{{Key: "a", Item: l}, {Key: "b", Item: l}, {Key: "c", Item: l, Until: 1}}
	for name, call := range calls() {
		answer := call(s, l)
		for i, entry := range answer {
			spoil(entry.Item)
			for _, other := range answer[i+1:] {
				if slices.Contains(other.Item.List, "spoilt") {
					t.Errorf("%s: %q and %q share memory", name, entry.Key, other.Key)
				}
			}
		}
		if slices.Contains(shared, "spoilt") {
			t.Fatalf("%s: shares memory with what was handed in", name)
		}
	}
}

func TestP3TheSameEachTime(t *testing.T) {
	s := sorted(mix())
	first := seen(t, s, 4, "none")
	for now := range 8 {
		space.Sweep(s, now)
		space.Put(s, now, "new", text("x"), 0)
		space.Keys(s, now, "[")
	}
	if seen(t, s, 4, "none") != first || item.Check(s[0].Item) != api.OK {
		t.Errorf("another answer")
	}
}
