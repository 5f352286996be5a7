package item_test

import (
	"fmt"
	"math/rand"
	"slices"
	"strings"
	"testing"

	"springhouse/api"
	"springhouse/item"
)

const (
	long    = "LLLLLLLLLLLLLLLLLLLLLLLLLLLLLLLLLLLLLLLLLLLLLLLLLLLLLLLLLLLL" // MaxBytes of them
	tooLong = long + "L"
)

func text(s string) api.Item          { return api.Item{Kind: api.ItemText, Text: s} }
func list(l ...string) api.Item       { return api.Item{Kind: api.ItemList, List: l} }
func set(l ...string) api.Item        { return api.Item{Kind: api.ItemSet, List: l} }
func hash(l ...api.Pair) api.Item     { return api.Item{Kind: api.ItemHash, Pairs: l} }
func scores(l ...api.Score) api.Item  { return api.Item{Kind: api.ItemScore, Scores: l} }
func pair(f, v string) api.Pair       { return api.Pair{Field: f, Value: v} }
func score(n int, m string) api.Score { return api.Score{N: n, Member: m} }
func name(i int) string               { return fmt.Sprintf("%02d", i) }

func many[T any](n int, f func(i int) T) []T {
	var l []T
	for i := range n {
		l = append(l, f(i))
	}
	return l
}

// same: an empty list may be nil or not.
func same(a, b api.Item) bool {
	return a.Kind == b.Kind && a.Text == b.Text && slices.Equal(a.List, b.List) && slices.Equal(a.Pairs, b.Pairs) && slices.Equal(a.Scores, b.Scores)
}

type coded struct {
	x api.Item
	s string
}

// good: items that are right, with their bytes.
func good() []coded {
	names := many(24, name)
	return []coded{
		{text(""), "\x01"},
		{text("41"), "\x0141"},
		{text("\x00\xff\r\n"), "\x01\x00\xff\r\n"},
		{text(long), "\x01" + long},
		{list(""), "\x02\x01\x00"},
		{list("b", "a", "b", ""), "\x02\x04\x01b\x01a\x01b\x00"},
		{list(long, "\xff"), "\x02\x02\x3c" + long + "\x01\xff"},
		{list(make([]string, 24)...), "\x02\x18" + strings.Repeat("\x00", 24)},
		{set(""), "\x03\x01\x00"},
		{set("", "A", "a", "aa", "ab", "b", "\x80"), "\x03\x07\x00\x01A\x01a\x02aa\x02ab\x01b\x01\x80"},
		{set("K", long), "\x03\x02\x01K\x3c" + long},
		{set(names...), "\x03\x18\x02" + strings.Join(names, "\x02")},
		{hash(pair("", "")), "\x04\x01\x00\x00"},
		{hash(pair("f", "2"), pair("g", ""), pair("ga", "1")), "\x04\x03\x01f\x012\x01g\x00\x02ga\x011"},
		{hash(pair(long, long)), "\x04\x01\x3c" + long + "\x3c" + long},
		{hash(many(24, func(i int) api.Pair { return pair(name(i), "v") })...), "\x04\x18\x02" + strings.Join(names, "\x01v\x02") + "\x01v"},
		{scores(score(0, "a")), "\x05\x01\x3b\x9a\xc9\xff\x01a"},
		{scores(score(-999999999, ""), score(999999999, "b")), "\x05\x02\x00\x00\x00\x00\x00\x77\x35\x93\xfe\x01b"},
		{scores(score(-1, "b"), score(2, "a"), score(2, "c")), "\x05\x03\x3b\x9a\xc9\xfe\x01b\x3b\x9a\xca\x01\x01a\x3b\x9a\xca\x01\x01c"},
		{scores(score(1, long)), "\x05\x01\x3b\x9a\xca\x00\x3c" + long},
		{scores(many(24, func(i int) api.Score { return score(0, name(i)) })...), "\x05\x18\x3b\x9a\xc9\xff\x02" + strings.Join(names, "\x3b\x9a\xc9\xff\x02")},
	}
}

type wrong struct {
	name string
	x    api.Item
	want api.Errno
}

// bad: items of which something is wrong.
func bad() []wrong {
	all := api.Item{Text: tooLong, List: []string{"b", "a"}, Pairs: []api.Pair{{}}, Scores: []api.Score{{}}}
	of := func(kind int, x api.Item) api.Item {
		x.Kind = kind
		return x
	}
	bads := []wrong{
		{"nothing", api.Item{}, api.ErrKind},
		{"a kind too many", api.Item{Kind: 6}, api.ErrKind},
		{"a kind below 0", api.Item{Kind: -1}, api.ErrKind},
		{"a kind whose last byte is one", api.Item{Kind: 257}, api.ErrKind},
		{"the kind first", of(0, all), api.ErrKind},
		{"the kind first, a great one", of(6, all), api.ErrKind},
	}
	for kind := api.ItemText; kind <= api.ItemScore; kind++ {
		bads = append(bads, wrong{fmt.Sprintf("kind %d with all", kind), of(kind, all), api.ErrForm})
	}
	for i, x := range []api.Item{text(""), list("a"), set("a"), hash(pair("a", "")), scores(score(1, "a"))} {
		for j, other := range []func(x *api.Item){
			func(x *api.Item) { x.Text = "x" },
			func(x *api.Item) { x.List = []string{""} },
			func(x *api.Item) { x.List = []string{""} },
			func(x *api.Item) { x.Pairs = []api.Pair{{}} },
			func(x *api.Item) { x.Scores = []api.Score{{}} },
		} {
			if i == j || i == 1 && j == 2 || i == 2 && j == 1 { // that is its own
				continue
			}
			y := x
			other(&y)
			bads = append(bads, wrong{fmt.Sprintf("kind %d with what kind %d has", i+1, j+1), y, api.ErrForm})
			z := api.Item{Kind: x.Kind}
			other(&z)
			bads = append(bads, wrong{fmt.Sprintf("kind %d with what kind %d has alone", i+1, j+1), z, api.ErrForm})
		}
	}
	return slices.Concat(bads, badLists(), badPairs(), badScores())
}

func badLists() []wrong {
	return []wrong{
		{"a text too long", text(tooLong), api.ErrMany},
		{"no elements", list(), api.ErrNone},
		{"no elements, not nil", list([]string{}...), api.ErrNone},
		{"elements too many", list(make([]string, 25)...), api.ErrMany},
		{"an element too long", list("a", tooLong), api.ErrMany},
		{"no members", set(), api.ErrNone},
		{"members too many", set(many(25, name)...), api.ErrMany},
		{"a member too long", set("a", tooLong), api.ErrMany},
		{"members that fall", set("a", "c", "b"), api.ErrState},
		{"members that are alike", set("a", "a"), api.ErrState},
		{"empty members that are alike", set("", ""), api.ErrState},
		{"a beginning behind", set("ab", "a"), api.ErrState},
		{"bytes without a sign", set("\x80", "\x7f"), api.ErrState},
		{"members too many ahead of members that fall", set(make([]string, 25)...), api.ErrMany},
		{"a member too long ahead of members that fall", set("b", "a", tooLong), api.ErrMany},
	}
}

func badPairs() []wrong {
	return []wrong{
		{"no pairs", hash(), api.ErrNone},
		{"pairs too many", hash(many(25, func(i int) api.Pair { return pair(name(i), "") })...), api.ErrMany},
		{"a field too long", hash(pair("a", ""), pair(tooLong, "")), api.ErrMany},
		{"a value too long", hash(pair("a", ""), pair("b", tooLong)), api.ErrMany},
		{"fields that fall", hash(pair("b", "1"), pair("a", "2")), api.ErrState},
		{"fields that are alike", hash(pair("a", "1"), pair("a", "2")), api.ErrState},
		{"pairs too many ahead of fields that fall", hash(make([]api.Pair, 25)...), api.ErrMany},
		{"a value too long ahead of fields that fall", hash(pair("b", ""), pair("a", ""), pair("c", tooLong)), api.ErrMany},
	}
}

func badScores() []wrong {
	return []wrong{
		{"no scores", scores(), api.ErrNone},
		{"scores too many", scores(many(25, func(i int) api.Score { return score(i, name(i)) })...), api.ErrMany},
		{"a score's member too long", scores(score(1, "a"), score(2, tooLong)), api.ErrMany},
		{"a number too great", scores(score(1, "a"), score(1000000000, "b")), api.ErrRange},
		{"a number too small", scores(score(-1000000000, "a")), api.ErrRange},
		{"a number of many bits", scores(score(1<<32, "a")), api.ErrRange},
		{"a member twice", scores(score(1, "a"), score(2, "a")), api.ErrTwice},
		{"a member twice, not one behind the other", scores(score(1, "a"), score(2, "b"), score(3, "a")), api.ErrTwice},
		{"a score twice", scores(score(1, "a"), score(1, "a")), api.ErrTwice},
		{"numbers that fall", scores(score(2, "a"), score(1, "b")), api.ErrState},
		{"members of one number that fall", scores(score(1, "b"), score(1, "a")), api.ErrState},
		{"scores too many ahead of a number's range", scores(many(25, func(int) api.Score { return score(1000000000, "") })...), api.ErrMany},
		{"a member too long ahead of a number's range", scores(score(1000000000, "a"), score(1, tooLong)), api.ErrMany},
		{"a number's range ahead of a member twice", scores(score(1, "a"), score(2, "a"), score(1000000000, "b")), api.ErrRange},
		{"a number's range ahead of numbers that fall", scores(score(2, "b"), score(1, "a"), score(-1000000000, "c")), api.ErrRange},
		{"a member twice ahead of numbers that fall", scores(score(3, "b"), score(2, "a"), score(4, "a")), api.ErrTwice},
		{"a member twice, of numbers that fall", scores(score(2, "a"), score(1, "a")), api.ErrTwice},
	}
}

func TestD1CheckOfRightItems(t *testing.T) {
	for _, c := range good() {
		if e := item.Check(c.x); e != api.OK {
			t.Errorf("%q: %d", c.s, e)
		}
	}
}

func TestD1CheckOfWrongItems(t *testing.T) {
	for _, c := range bad() {
		if e := item.Check(c.x); e != c.want {
			t.Errorf("%s: %d, must be %d", c.name, e, c.want)
		}
	}
}

func TestD1AnEmptyListIsNothing(t *testing.T) {
	x := text("a")
	x.List, x.Pairs, x.Scores = []string{}, []api.Pair{}, []api.Score{}
	if e := item.Check(x); e != api.OK {
		t.Error(e)
	}
	if s, e := item.Encode(x); s != "\x01a" || e != api.OK {
		t.Errorf("%q %d", s, e)
	}
}

func TestD2Encode(t *testing.T) {
	for _, c := range good() {
		if s, e := item.Encode(c.x); s != c.s || e != api.OK {
			t.Errorf("%q %d, must be %q", s, e, c.s)
		}
	}
	for _, c := range bad() {
		if s, e := item.Encode(c.x); s != "" || e != c.want {
			t.Errorf("%s: %q %d, must be %d", c.name, s, e, c.want)
		}
	}
}

func TestD2Decode(t *testing.T) {
	for _, c := range good() {
		if x, e := item.Decode(c.s); !same(x, c.x) || e != api.OK {
			t.Errorf("%q: %v %d", c.s, x, e)
		}
	}
}

func TestD2DecodeOfWrongBytes(t *testing.T) {
	for _, c := range []struct {
		s    string
		want api.Errno
	}{
		{"", api.ErrForm},
		{"\x00", api.ErrForm},
		{"\x06", api.ErrForm},
		{"\x06\x00", api.ErrForm},
		{"\xff\x01\x00", api.ErrForm},
		{"\x02", api.ErrForm},
		{"\x02\x01", api.ErrForm},
		{"\x02\x01\x01", api.ErrForm},
		{"\x02\x02\x00", api.ErrForm},
		{"\x02\x01\x00x", api.ErrForm},
		{"\x02\x00x", api.ErrForm},
		{"\x02\xff\x00", api.ErrForm},
		{"\x02\x01\xff", api.ErrForm},
		{"\x04\x01\x00", api.ErrForm},
		{"\x04\x01\x01a", api.ErrForm},
		{"\x04\x01\x01a\x02b", api.ErrForm},
		{"\x05\x01\x00\x00\x00", api.ErrForm},
		{"\x05\x01\x00\x00\x00\x00", api.ErrForm},
		{"\x05\x01\x00\x00\x00\x00\x01", api.ErrForm},
		{"\x03\x02\x01b\x01ax", api.ErrForm},

		{"\x02\x00", api.ErrNone},
		{"\x03\x00", api.ErrNone},
		{"\x04\x00", api.ErrNone},
		{"\x05\x00", api.ErrNone},
		{"\x01" + tooLong, api.ErrMany},
		{"\x02\x01\x3d" + tooLong, api.ErrMany},
		{"\x02\x19" + strings.Repeat("\x00", 25), api.ErrMany},
		{"\x02\xff" + strings.Repeat("\x00", 255), api.ErrMany},
		{"\x02\x01\xff" + strings.Repeat("x", 255), api.ErrMany},
		{"\x04\x01\x00\x3d" + tooLong, api.ErrMany},
		{"\x05\x01\xff\xff\xff\xff\x3d" + tooLong, api.ErrMany},
		{"\x03\x02\x01b\x01a", api.ErrState},
		{"\x03\x02\x00\x00", api.ErrState},
		{"\x04\x02\x01a\x00\x01a\x00", api.ErrState},
		{"\x05\x01\xff\xff\xff\xff\x01a", api.ErrRange},
		{"\x05\x01\x77\x35\x93\xff\x01a", api.ErrRange},
		{"\x05\x01\x80\x00\x00\x00\x01a", api.ErrRange},
		{"\x05\x02\x00\x00\x00\x00\x01a\x00\x00\x00\x01\x01a", api.ErrTwice},
		{"\x05\x02\x00\x00\x00\x01\x01a\x00\x00\x00\x00\x01b", api.ErrState},
	} {
		if x, e := item.Decode(c.s); !same(x, api.Item{}) || e != c.want {
			t.Errorf("%q: %v %d, must be %d", c.s, x, e, c.want)
		}
	}
}

func TestD3WhatIsEncodedIsDecodedAsItWas(t *testing.T) {
	draw := rand.New(rand.NewSource(4))
	for range 3000 {
		x := drawItem(draw)
		s, e := item.Encode(x)
		y, f := item.Decode(s)
		if e != api.OK || f != api.OK || !same(x, y) {
			t.Fatalf("%v: %q %d; %v %d", x, s, e, y, f)
		}
	}
}

func TestD3NothingElseIsDecoded(t *testing.T) {
	draw := rand.New(rand.NewSource(6))
	right := 0
	for range 100000 {
		s := drawBytes(draw)
		x, e := item.Decode(s)
		if e != api.OK {
			if !same(x, api.Item{}) {
				t.Fatalf("%q: %v %d", s, x, e)
			}
			continue
		}
		right++
		if again, f := item.Encode(x); again != s || f != api.OK {
			t.Fatalf("%q: %v, which is %q %d", s, x, again, f)
		}
	}
	if right < 1000 {
		t.Errorf("only %d are right", right)
	}
}

func TestD3NoBeginningIsDecoded(t *testing.T) {
	for _, c := range good() {
		if c.x.Kind == api.ItemText {
			continue // its beginnings are texts too
		}
		for n := range len(c.s) {
			if x, e := item.Decode(c.s[:n]); !same(x, api.Item{}) || e != api.ErrForm {
				t.Errorf("%q: %v %d", c.s[:n], x, e)
			}
		}
		if x, e := item.Decode(c.s + "\x00"); !same(x, api.Item{}) || e != api.ErrForm {
			t.Errorf("%q and more: %v %d", c.s, x, e)
		}
	}
}

// drawItem draws an item that is right.
func drawItem(draw *rand.Rand) api.Item {
	var members []string
	for range draw.Intn(24) + 1 {
		members = append(members, drawText(draw))
	}
	risen := slices.Compact(slices.Sorted(slices.Values(members)))
	switch draw.Intn(5) {
	case 0:
		return text(members[0])
	case 1:
		return list(members...)
	case 2:
		return set(risen...)
	case 3:
		return hash(many(len(risen), func(i int) api.Pair { return pair(risen[i], drawText(draw)) })...)
	}
	n := -999999999
	return scores(many(len(risen), func(i int) api.Score {
		n += draw.Intn(2) * draw.Intn(80000000)
		return score(n, risen[i])
	})...)
}

func drawText(draw *rand.Rand) string {
	b := make([]byte, draw.Intn(61))
	for i := range b {
		b[i] = byte(draw.Intn(256))
	}
	return string(b)
}

// drawBytes draws a few bytes, such as are often an item's.
func drawBytes(draw *rand.Rand) string {
	var b []byte
	for range draw.Intn(9) {
		b = append(b, byte(draw.Intn(6)))
	}
	return string(b)
}

func TestP2WhatIsHandedInIsOnlyRead(t *testing.T) {
	fields := []api.Pair{pair("a", "1"), pair("b", "2"), pair("spare", "3")}
	members := []string{"a", "b", "spare"}
	met := []api.Score{score(1, "a"), score(2, "b"), score(3, "spare")}
	for _, x := range []api.Item{list(members[:2]...), set(members[:2]...), hash(fields[:2]...), scores(met[:2]...)} {
		item.Check(x)
		item.Encode(x)
	}
	if !slices.Equal(fields, []api.Pair{pair("a", "1"), pair("b", "2"), pair("spare", "3")}) ||
		!slices.Equal(members, []string{"a", "b", "spare"}) ||
		!slices.Equal(met, []api.Score{score(1, "a"), score(2, "b"), score(3, "spare")}) {
		t.Errorf("%v %v %v", fields, members, met)
	}
}

func TestP2AnAnswerIsTheCallers(t *testing.T) {
	for _, c := range good() {
		x, _ := item.Decode(c.s)
		for i := range x.List {
			x.List[i] = "other"
		}
		for i := range x.Pairs {
			x.Pairs[i] = pair("other", "other")
		}
		for i := range x.Scores {
			x.Scores[i] = score(7, "other")
		}
		if y, e := item.Decode(c.s); !same(y, c.x) || e != api.OK {
			t.Errorf("%q: %v %d", c.s, y, e)
		}
	}
}
