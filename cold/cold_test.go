package cold_test

import (
	"fmt"
	"math"
	"math/rand"
	"reflect"
	"slices"
	"strings"
	"testing"

	"springhouse/api"
	"springhouse/cold"
	"springhouse/engine"
	"springhouse/item"
	"springhouse/space"
)

const end, far, near = api.MaxTime, math.MaxInt, math.MinInt

func long(n int) string      { return strings.Repeat("L", n) }
func text(s string) api.Item { return api.Item{Kind: api.ItemText, Text: s} }
func isZero(x any) bool      { return reflect.ValueOf(x).IsZero() }

// hot slot, with a text.
func hot(key, s string, until int) api.Slot {
	return api.Slot{Key: key, Item: text(s), Until: until}
}

// cool slot, whose item lies at a place.
func cool(key string, segment, record, until int) api.Slot {
	return api.Slot{Key: key, Cold: true, Place: api.Place{Segment: segment, Record: record}, Until: until}
}

// seg: a segment of texts.
func seg(words string) []string {
	var l []string
	for _, s := range strings.Fields(words) {
		l = append(l, "\x01"+s)
	}
	return l
}

// segs: segments of texts, between bars.
func segs(words string) [][]string {
	var l [][]string
	for _, s := range strings.Split(words, "|") {
		l = append(l, seg(s))
	}
	return l
}

// kinds: an item of each kind.
func kinds() []api.Item {
	return []api.Item{
		text("41"), text(""), text(long(60)),
		{Kind: api.ItemList, List: []string{"b", "a", "b", ""}},
		{Kind: api.ItemSet, List: []string{"", "a", "b"}},
		{Kind: api.ItemHash, Pairs: []api.Pair{{Field: "", Value: "0"}, {Field: "f", Value: "1"}}},
		{Kind: api.ItemScore, Scores: []api.Score{{N: -api.MaxInt, Member: "b"}, {N: 2, Member: "a"}, {N: 2, Member: "c"}}},
	}
}

// mix: a store with some hot and some cold, two of which mean one record; records that nobody means lie between.
func mix() api.Store {
	set, _ := item.Encode(kinds()[4])
	hash, _ := item.Encode(kinds()[5])
	return api.Store{
		Slots: []api.Slot{
			hot("", "x", 0),
			cool("a", 0, 1, 5),
			{Key: "b", Item: kinds()[3], Until: 9},
			cool("c", 0, 3, 0),
			cool("d", 2, 0, end),
			cool("e", 0, 1, 0),
		},
		Segments: [][]string{{"\x01w", set, "\x01y", hash}, {"\x01u", "\x01v"}, {"\x01last"}},
	}
}

// lies: a store in short.
func lies(s api.Store) string {
	out := ""
	for _, x := range s.Slots {
		out += x.Key + "="
		if x.Cold {
			out += fmt.Sprint("at ", x.Place.Segment, " ", x.Place.Record)
		} else {
			out += fmt.Sprint(x.Item)
		}
		out += fmt.Sprint("@", x.Until, "; ")
		if x.Cold && (x.Item.Kind != 0 || x.Item.Text != "" || len(x.Item.List)+len(x.Item.Pairs)+len(x.Item.Scores) > 0) || !x.Cold && x.Place != (api.Place{}) {
			out += "(and what it should not have) "
		}
	}
	for _, segment := range s.Segments {
		out += fmt.Sprintf("%q ", segment)
	}
	return out
}

// seen: a space in short.
func seen(s api.Space) string {
	out := ""
	for _, e := range s {
		x := e.Item
		out += fmt.Sprintf("%q=%d %q %q %q %v@%d; ", e.Key, x.Kind, x.Text, x.List, x.Pairs, x.Scores, e.Until)
	}
	return out
}

type wrong struct {
	name string
	s    api.Store
	want api.Errno
}

// with: a right store, but for what is done to it.
func with(do func(s *api.Store)) api.Store {
	s := mix()
	do(&s)
	return s
}

// slots: a store of these alone.
func slots(l ...api.Slot) api.Store { return api.Store{Slots: l, Segments: segs("w x y z|u")} }

func wrongs() []wrong {
	falls := api.Item{Kind: api.ItemSet, List: []string{"b", "a"}}
	var many []api.Slot
	for i := range 17 {
		many = append(many, hot(fmt.Sprint("n", 100+i), "x", 0))
	}
	none := [][]string{{"\x01w"}, {""}}
	return append(wrongSlots(),
		wrong{"too many slots", slots(many...), api.ErrMany},
		wrong{"too many segments", with(func(s *api.Store) { s.Segments = append(s.Segments, make([][]string, 6)...) }), api.ErrMany},
		wrong{"too many records", with(func(s *api.Store) { s.Segments[0] = append(s.Segments[0], "\x01x") }), api.ErrMany},
		wrong{"too many records in the last one", with(func(s *api.Store) { s.Segments[2] = seg("a b c d e") }), api.ErrMany},
		wrong{"too many slots, and records wrong", api.Store{Slots: many, Segments: none}, api.ErrMany},
		wrong{"too many segments, and records wrong", api.Store{Segments: append(none, make([][]string, 7)...)}, api.ErrMany},
		wrong{"too many records, the first ones wrong", api.Store{Segments: [][]string{{""}, make([]string, 5)}}, api.ErrMany},
		wrong{"too many records, slots wrong", api.Store{Slots: []api.Slot{{Key: "a"}}, Segments: [][]string{seg("a b c d e")}}, api.ErrMany},
		wrong{"an empty record", api.Store{Segments: none}, api.ErrForm},
		wrong{"a record of no kind", api.Store{Segments: [][]string{{"\x06"}}}, api.ErrForm},
		wrong{"a record that is short", api.Store{Segments: [][]string{{"\x03\x01"}}}, api.ErrForm},
		wrong{"a record with too much", api.Store{Segments: [][]string{{"\x03\x01\x01ab"}}}, api.ErrForm},
		wrong{"a record of an empty list", api.Store{Segments: [][]string{{"\x02\x00"}}}, api.ErrNone},
		wrong{"a record that is too long", api.Store{Segments: [][]string{{"\x01" + long(61)}}}, api.ErrMany},
		wrong{"a record of a set that falls", api.Store{Segments: [][]string{{}, {"\x01x", "\x03\x02\x01b\x01a"}}}, api.ErrState},
		wrong{"a record of a number too great", api.Store{Segments: [][]string{{"\x05\x01\xff\xff\xff\xff\x00"}}}, api.ErrRange},
		wrong{"a record of a member twice", api.Store{Segments: [][]string{{"\x05\x02\x00\x00\x00\x00\x00\x00\x00\x00\x01\x00"}}}, api.ErrTwice},
		wrong{"records one by one", api.Store{Segments: [][]string{{"\x03\x02\x01b\x01a", ""}, {"\x02\x00"}}}, api.ErrState},
		wrong{"records one by one, otherwise", api.Store{Segments: [][]string{{"\x02\x00"}, {"", "\x03\x02\x01b\x01a"}}}, api.ErrNone},
		wrong{"records ahead of slots", api.Store{Slots: []api.Slot{{Key: long(61), Item: falls}}, Segments: none}, api.ErrForm},
	)
}

func wrongSlots() []wrong {
	falls := api.Item{Kind: api.ItemSet, List: []string{"b", "a"}}
	place := api.Place{Record: 1}
	return []wrong{
		{"a hot key too long", slots(hot(long(61), "x", 0)), api.ErrMany},
		{"a cold key too long", slots(cool(long(61), 0, 0, 0)), api.ErrMany},
		{"a key too long, and all else wrong", slots(api.Slot{Key: long(61), Item: falls, Place: place, Until: -1}), api.ErrMany},
		{"a hot slot without an item", slots(api.Slot{Key: "a"}), api.ErrKind},
		{"a hot slot of no kind", slots(api.Slot{Key: "a", Item: api.Item{Kind: 6}}), api.ErrKind},
		{"a hot item with too much", slots(api.Slot{Key: "a", Item: api.Item{Kind: 1, List: []string{""}}}), api.ErrForm},
		{"a hot item that is empty", slots(api.Slot{Key: "a", Item: api.Item{Kind: api.ItemList}}), api.ErrNone},
		{"a hot text too long", slots(hot("a", long(61), 0)), api.ErrMany},
		{"a hot set that falls", slots(api.Slot{Key: "a", Item: falls}), api.ErrState},
		{"a hot item ahead of its place", slots(api.Slot{Key: "a", Item: falls, Place: place}), api.ErrState},
		{"a hot item ahead of until", slots(api.Slot{Key: "a", Item: falls, Until: -1}), api.ErrState},
		{"a hot slot with a record", slots(api.Slot{Key: "a", Item: text("x"), Place: place}), api.ErrForm},
		{"a hot slot with a segment", slots(api.Slot{Key: "a", Item: text("x"), Place: api.Place{Segment: 1}}), api.ErrForm},
		{"a hot slot with a place below 0", slots(api.Slot{Key: "a", Item: text("x"), Place: api.Place{Segment: -1, Record: -1}}), api.ErrForm},
		{"a place ahead of until", slots(api.Slot{Key: "a", Item: text("x"), Place: place, Until: -1}), api.ErrForm},
		{"a cold slot with an item", slots(api.Slot{Key: "a", Cold: true, Item: text("x")}), api.ErrForm},
		{"a cold slot with an empty text", slots(api.Slot{Key: "a", Cold: true, Item: text("")}), api.ErrForm},
		{"a cold slot with something of no kind", slots(api.Slot{Key: "a", Cold: true, Item: api.Item{Text: "x"}}), api.ErrForm},
		{"a cold slot with a list of no kind", slots(api.Slot{Key: "a", Cold: true, Item: api.Item{List: []string{""}}}), api.ErrForm},
		{"a cold slot with an item, and no record", slots(api.Slot{Key: "a", Cold: true, Item: falls, Place: api.Place{Segment: 9}}), api.ErrForm},
		{"no such segment", slots(cool("a", 2, 0, 0)), api.ErrNone},
		{"no such record", slots(cool("a", 0, 4, 0)), api.ErrNone},
		{"no such record of the last one", slots(cool("a", 1, 1, 0)), api.ErrNone},
		{"a segment below 0", slots(cool("a", -1, 0, 0)), api.ErrNone},
		{"a record below 0", slots(cool("a", 0, -1, 0)), api.ErrNone},
		{"a segment far off", slots(cool("a", far, 0, 0)), api.ErrNone},
		{"a record far off", slots(cool("a", 1, near, 0)), api.ErrNone},
		{"cold without segments", api.Store{Slots: []api.Slot{cool("a", 0, 0, 0)}}, api.ErrNone},
		{"cold in an empty segment", api.Store{Slots: []api.Slot{cool("a", 0, 0, 0)}, Segments: [][]string{{}}}, api.ErrNone},
		{"no record ahead of until", slots(cool("a", 2, 0, -1)), api.ErrNone},
		{"until below 0", slots(hot("a", "x", -1)), api.ErrRange},
		{"until too late", slots(hot("a", "x", end+1)), api.ErrRange},
		{"until of a cold one below 0", slots(cool("a", 0, 0, near)), api.ErrRange},
		{"until of a cold one too late", slots(cool("a", 0, 0, far)), api.ErrRange},
		{"keys that fall", slots(hot("b", "x", 0), hot("a", "x", 0)), api.ErrState},
		{"a key twice, hot and cold", slots(hot("a", "w", 0), cool("a", 0, 0, 0)), api.ErrState},
		{"a beginning behind", slots(cool("ab", 0, 0, 0), cool("a", 0, 1, 0)), api.ErrState},
		{"until of the one that falls", slots(hot("b", "x", 0), hot("a", "x", -1)), api.ErrRange},
		{"slot by slot", slots(hot("b", "x", 0), hot("a", "x", 0), api.Slot{Key: "c"}), api.ErrState},
		{"slot by slot, otherwise", slots(hot("b", "x", -1), hot("a", "x", 0), api.Slot{Key: long(61)}), api.ErrRange},
	}
}

func TestL1Check(t *testing.T) {
	var full api.Store
	for i := range 8 {
		full.Segments = append(full.Segments, seg("w x y z"))
		full.Slots = append(full.Slots, cool(fmt.Sprint("n", 100+2*i), i, 3, end), hot(fmt.Sprint("n", 101+2*i), "x", 1))
	}
	for _, s := range []api.Store{{}, {Slots: []api.Slot{}, Segments: [][]string{}}, {Segments: make([][]string, 8)}, {Segments: [][]string{nil, seg("a"), {}}}, mix(), full,
		slots(hot("", "", 0), cool(long(60), 1, 0, end)), slots(cool("a", 0, 0, 0), cool("b", 0, 0, 1)),
		slots(api.Slot{Key: "a", Cold: true, Item: api.Item{List: []string{}, Pairs: []api.Pair{}, Scores: []api.Score{}}})} {
		if e := cold.Check(s); e != api.OK {
			t.Errorf("%s: %d", lies(s), e)
		}
	}
	for _, c := range wrongs() {
		if e := cold.Check(c.s); e != c.want {
			t.Errorf("%s: %d, must be %d", c.name, e, c.want)
		}
	}
}

// TestL1ErrorsOfAllOthers: what is wrong with the store, first; and all else is zero then.
func TestL1ErrorsOfAllOthers(t *testing.T) {
	for _, c := range wrongs() {
		for _, key := range []string{"a", "no"} {
			seen, e0 := cold.View(c.s)
			a, e1 := cold.Cool(c.s, key)
			b, e2 := cold.Warm(c.s, key)
			d, n, e3 := cold.Gather(c.s, -1)
			f, r, e4 := cold.Do(c.s, -1, []string{"what"})
			if errs := [5]api.Errno{e0, e1, e2, e3, e4}; errs != [5]api.Errno{c.want, c.want, c.want, c.want, c.want} {
				t.Errorf("%s: %d, must be %d", c.name, errs, c.want)
			}
			if len(seen) > 0 || !isZero(a) || !isZero(b) || !isZero(d) || n != 0 || !isZero(f) || !isZero(r) {
				t.Errorf("%s: something is answered", c.name)
			}
		}
	}
}

func TestL1View(t *testing.T) {
	want := api.Space{{Key: "", Item: text("x")}, {Key: "a", Item: kinds()[4], Until: 5}, {Key: "b", Item: kinds()[3], Until: 9}, {Key: "c", Item: kinds()[5]}, {Key: "d", Item: text("last"), Until: end}, {Key: "e", Item: kinds()[4]}}
	if s, e := cold.View(mix()); seen(s) != seen(want) || space.Check(s) != api.OK || e != api.OK {
		t.Errorf("%s %d", seen(s), e)
	}
	for _, s := range []api.Store{{}, {Segments: segs("a b c d|e")}} {
		if v, e := cold.View(s); len(v) != 0 || e != api.OK {
			t.Errorf("none: %v %d", v, e)
		}
	}
}

func TestL2CoolAndWarmOfEachKind(t *testing.T) {
	for _, x := range kinds() {
		for _, until := range []int{0, 1, end} {
			record, _ := item.Encode(x)
			s := api.Store{Slots: []api.Slot{{Key: "k", Item: x, Until: until}}}
			y, e := cold.Cool(s, "k")
			if want := (api.Store{Slots: []api.Slot{cool("k", 0, 0, until)}, Segments: [][]string{{record}}}); lies(y) != lies(want) || e != api.OK {
				t.Errorf("%v: %s %d", x, lies(y), e)
			}
			z, e := cold.Warm(y, "k")
			if want := (api.Store{Slots: s.Slots, Segments: [][]string{{record}}}); lies(z) != lies(want) || e != api.OK {
				t.Errorf("%v: %s %d", x, lies(z), e)
			}
		}
	}
}

// TestL2CoolWhere: behind the last record of the last segment; in a new one, if that is full.
func TestL2CoolWhere(t *testing.T) {
	for _, c := range []struct {
		ahead, then     [][]string
		segment, record int
		err             api.Errno
	}{
		{nil, segs("k"), 0, 0, api.OK},
		{segs(""), segs("k"), 0, 0, api.OK},
		{segs("a"), segs("a k"), 0, 1, api.OK},
		{segs("a b c"), segs("a b c k"), 0, 3, api.OK},
		{segs("a b c d"), segs("a b c d|k"), 1, 0, api.OK},
		{segs("a|b c"), segs("a|b c k"), 1, 2, api.OK},
		{segs("a|"), segs("a|k"), 1, 0, api.OK},
		{segs("|a b c d"), segs("|a b c d|k"), 2, 0, api.OK},
		{segs("||||||a b c d"), segs("||||||a b c d|k"), 7, 0, api.OK},
		{segs("|||||||a b c"), segs("|||||||a b c k"), 7, 3, api.OK},
		{segs("|||||||"), segs("|||||||k"), 7, 0, api.OK},
		{segs("|||||||a b c d"), nil, 0, 0, api.ErrMany},
		{segs("a|b|c|d|e|f|g|a b c d"), nil, 0, 0, api.ErrMany},
	} {
		y, e := cold.Cool(api.Store{Slots: []api.Slot{hot("j", "j", 3), hot("k", "k", 4), hot("l", "l", 5)}, Segments: c.ahead}, "k")
		want := api.Store{Slots: []api.Slot{hot("j", "j", 3), cool("k", c.segment, c.record, 4), hot("l", "l", 5)}, Segments: c.then}
		if c.err != api.OK {
			want = api.Store{}
		}
		if lies(y) != lies(want) || e != c.err {
			t.Errorf("%q: %s %d, must be %s %d", c.ahead, lies(y), e, lies(want), c.err)
		}
	}
}

func TestL2CoolAndWarmErrors(t *testing.T) {
	full := slots(hot("a", "x", 0), cool("b", 0, 0, 0))
	full.Segments = segs("a b c d|a b c d|a b c d|a b c d|a b c d|a b c d|a b c d|a b c d")
	for _, c := range []struct {
		key        string
		cool, warm api.Errno
	}{
		{"a", api.ErrMany, api.ErrState}, {"b", api.ErrState, api.OK}, {"c", api.ErrNone, api.ErrNone}, {"", api.ErrNone, api.ErrNone}, {"A", api.ErrNone, api.ErrNone}, {long(61), api.ErrNone, api.ErrNone},
	} {
		y, e := cold.Cool(full, c.key)
		z, f := cold.Warm(full, c.key)
		if e != c.cool || f != c.warm || !isZero(y) || isZero(z) != (f != api.OK) {
			t.Errorf("%q: %d %d, must be %d %d", c.key, e, f, c.cool, c.warm)
		}
	}
	for _, key := range []string{"", "a"} {
		if y, e := cold.Cool(api.Store{}, key); !isZero(y) || e != api.ErrNone {
			t.Errorf("none: %s %d", lies(y), e)
		}
		if y, e := cold.Warm(api.Store{}, key); !isZero(y) || e != api.ErrNone {
			t.Errorf("none: %s %d", lies(y), e)
		}
	}
}

// TestL2WarmLeavesRecords: where a record lies that no slot means any more is for Gather.
func TestL2WarmLeavesRecords(t *testing.T) {
	y, e := cold.Warm(mix(), "a")
	want := mix()
	want.Slots[1] = api.Slot{Key: "a", Item: kinds()[4], Until: 5}
	if lies(y) != lies(want) || e != api.OK {
		t.Errorf("%s %d", lies(y), e)
	}
}

func TestL2Gather(t *testing.T) {
	for _, c := range []struct {
		name    string
		s       []api.Slot
		ahead   [][]string
		segment int
		went    int
		slots   []api.Slot
		then    [][]string
	}{
		{"all are meant", []api.Slot{cool("a", 0, 1, 0), cool("b", 0, 0, 0)}, segs("x y|"), 0, 0, []api.Slot{cool("a", 0, 1, 0), cool("b", 0, 0, 0)}, segs("x y|")},
		{"the first one goes", []api.Slot{cool("a", 0, 1, 7), cool("b", 0, 2, 8)}, segs("x y z"), 0, 1, []api.Slot{cool("a", 0, 0, 7), cool("b", 0, 1, 8)}, segs("y z")},
		{"the last one goes", []api.Slot{cool("a", 0, 1, 0), cool("b", 0, 0, 0)}, segs("x y z"), 0, 1, []api.Slot{cool("a", 0, 1, 0), cool("b", 0, 0, 0)}, segs("x y")},
		{"one between goes", []api.Slot{cool("a", 0, 2, 0), cool("b", 0, 0, 0)}, segs("x y z"), 0, 1, []api.Slot{cool("a", 0, 1, 0), cool("b", 0, 0, 0)}, segs("x z")},
		{"two apart go", []api.Slot{cool("a", 1, 3, 0), cool("b", 1, 1, 0), cool("c", 0, 0, 0)}, segs("u|w x y z|v"), 1, 2, []api.Slot{cool("a", 1, 1, 0), cool("b", 1, 0, 0), cool("c", 0, 0, 0)}, segs("u|x z|v")},
		{"one that two mean", []api.Slot{cool("a", 0, 3, 0), cool("b", 0, 3, 0), cool("c", 0, 1, 0)}, segs("w x y z"), 0, 2, []api.Slot{cool("a", 0, 1, 0), cool("b", 0, 1, 0), cool("c", 0, 0, 0)}, segs("x z")},
		{"hot slots mean none", []api.Slot{hot("a", "w", 0), hot("b", "x", 0)}, segs("w x|y"), 0, 2, []api.Slot{hot("a", "w", 0), hot("b", "x", 0)}, segs("y")},
		{"the same place of another segment", []api.Slot{cool("a", 1, 0, 0), cool("b", 2, 1, 0)}, segs("w x|y|u v"), 0, 2, []api.Slot{cool("a", 0, 0, 0), cool("b", 1, 1, 0)}, segs("y|u v")},
		{"a segment between goes", []api.Slot{cool("a", 0, 1, 0), cool("b", 2, 0, 0), hot("c", "x", 0)}, segs("w x|y|u v"), 1, 1, []api.Slot{cool("a", 0, 1, 0), cool("b", 1, 0, 0), hot("c", "x", 0)}, segs("w x|u v")},
		{"an empty segment goes", []api.Slot{cool("a", 0, 1, 0), cool("b", 2, 0, 0)}, segs("w x||u v"), 1, 0, []api.Slot{cool("a", 0, 1, 0), cool("b", 1, 0, 0)}, segs("w x|u v")},
		{"the last segment stays", []api.Slot{cool("a", 0, 1, 0)}, segs("w x|y z"), 1, 2, []api.Slot{cool("a", 0, 1, 0)}, segs("w x|")},
		{"the only segment stays", nil, segs("w x y z"), 0, 4, nil, segs("")},
		{"the last segment stays, empty as it was", nil, segs("x|"), 1, 0, nil, segs("x|")},
		{"the last of as many as may be", nil, segs("a|b|c|d|e|f|g|h"), 7, 1, nil, segs("a|b|c|d|e|f|g|")},
		{"one of as many as may be", []api.Slot{cool("a", 7, 0, 0)}, segs("a|b|c|d|e|f|g|h"), 6, 1, []api.Slot{cool("a", 6, 0, 0)}, segs("a|b|c|d|e|f|h")},
		{"only one segment is gathered", nil, segs("a|b|c"), 1, 1, nil, segs("a|c")},
	} {
		y, n, e := cold.Gather(api.Store{Slots: c.s, Segments: c.ahead}, c.segment)
		want := api.Store{Slots: c.slots, Segments: c.then}
		if lies(y) != lies(want) || n != c.went || e != api.OK {
			t.Errorf("%s: %s %d %d, must be %s %d", c.name, lies(y), n, e, lies(want), c.went)
		}
	}
}

func TestL2GatherErrors(t *testing.T) {
	for n, s := range []api.Store{{}, {Segments: segs("a")}, {Segments: segs("a|b")}, mix()} {
		for _, segment := range []int{near, -1, n, n + 1, 8, far} {
			if y, k, e := cold.Gather(s, segment); !isZero(y) || k != 0 || e != api.ErrNone {
				t.Errorf("%d of %d: %s %d %d", segment, n, lies(y), k, e)
			}
		}
	}
}

// TestL3SlotsStay: those that have the same item and key as ahead of it, but for Until; all others are hot.
func TestL3SlotsStay(t *testing.T) {
	a, b := kinds()[4], kinds()[3]
	for _, c := range []struct {
		now         int
		line, reply string
		do          func(s *api.Store)
	}{
		{4, "ping", "{1 PONG 0 []}", func(*api.Store) {}},
		{4, "what", "{2  5 []}", func(*api.Store) {}},
		{4, "sismember a b", "{3  1 []}", func(*api.Store) {}},
		{4, "hget c f", "{4 1 0 []}", func(*api.Store) {}},
		{5, "sismember a b", "{3  0 []}", func(*api.Store) {}},
		{4, "get a", "{2  7 []}", func(*api.Store) {}},
		{4, "lpush c x", "{2  7 []}", func(*api.Store) {}},
		{4, "sunion a e", "{6  0 [{4  0 []} {4 a 0 []} {4 b 0 []}]}", func(*api.Store) {}},
		{4, "sadd a a b", "{3  0 []}", func(*api.Store) {}},
		{4, "hset c f 1", "{3  0 []}", func(*api.Store) {}},
		{4, "srem a no", "{3  0 []}", func(*api.Store) {}},
		{4, "expire a 9", "{3  1 []}", func(s *api.Store) { s.Slots[1].Until = 13 }},
		{4, "expire c 9", "{3  1 []}", func(s *api.Store) { s.Slots[3].Until = 13 }},
		{4, "expire b 9", "{3  1 []}", func(s *api.Store) { s.Slots[2].Until = 13 }},
		{4, "persist a", "{3  1 []}", func(s *api.Store) { s.Slots[1].Until = 0 }},
		{4, "persist b", "{3  1 []}", func(s *api.Store) { s.Slots[2].Until = 0 }},
		{4, "set d last", "{1 OK 0 []}", func(s *api.Store) { s.Slots[4].Until = 0 }},
		{end, "set d last", "{1 OK 0 []}", func(s *api.Store) { s.Slots[4].Until = 0 }},
		{4, "set d other", "{1 OK 0 []}", func(s *api.Store) { s.Slots[4] = hot("d", "other", 0) }},
		{4, "append d x", "{3  5 []}", func(s *api.Store) { s.Slots[4] = hot("d", "lastx", end) }},
		{4, "append d ''", "{3  4 []}", func(*api.Store) {}},
		{4, "sadd a c", "{3  1 []}", func(s *api.Store) {
			s.Slots[1] = api.Slot{Key: "a", Item: api.Item{Kind: api.ItemSet, List: append(a.List, "c")}, Until: 5}
		}},
		{5, "rpush a x", "{3  1 []}", func(s *api.Store) {
			s.Slots[1] = api.Slot{Key: "a", Item: api.Item{Kind: api.ItemList, List: []string{"x"}}}
		}},
		{4, "lpop b", "{4 b 0 []}", func(s *api.Store) { s.Slots[2].Item.List = b.List[1:] }},
		{4, "del a c", "{3  2 []}", func(s *api.Store) { s.Slots = []api.Slot{s.Slots[0], s.Slots[2], s.Slots[4], s.Slots[5]} }},
		{4, "set aa x", "{1 OK 0 []}", func(s *api.Store) { s.Slots = slices.Insert(s.Slots, 2, hot("aa", "x", 0)) }},
		{4, "set f last", "{1 OK 0 []}", func(s *api.Store) { s.Slots = append(s.Slots, hot("f", "last", 0)) }},
		{4, "expire d 0", "{3  1 []}", func(s *api.Store) { s.Slots = slices.Delete(s.Slots, 4, 5) }},
	} {
		l := strings.Fields(strings.ReplaceAll(c.line, "''", "\x00"))
		for i := range l {
			l[i] = strings.ReplaceAll(l[i], "\x00", "")
		}
		y, r, e := cold.Do(mix(), c.now, l)
		if want := with(c.do); lies(y) != lies(want) || fmt.Sprint(r) != c.reply || e != api.OK || cold.Check(y) != api.OK {
			t.Errorf("%q at %d: %s %v %d, must be %s %s", c.line, c.now, lies(y), r, e, lies(want), c.reply)
		}
	}
}

// TestL3FullOnes: what is gone goes where there is no room else, and slots that stay lie where they lay.
func TestL3FullOnes(t *testing.T) {
	s := api.Store{Segments: segs("w x y z")}
	for i := range 16 {
		s.Slots = append(s.Slots, hot(fmt.Sprint("n", 100+i), "x", 0))
	}
	s.Slots[2], s.Slots[3] = cool("n102", 0, 2, 6), cool("n103", 0, 3, 0)
	if y, r, e := cold.Do(s, 5, []string{"set", "k", "v"}); lies(y) != lies(s) || fmt.Sprint(r) != "{2  2 []}" || e != api.OK {
		t.Errorf("%s %v %d", lies(y), r, e)
	}
	y, r, e := cold.Do(s, 6, []string{"set", "k", "v"})
	want := api.Store{Slots: append([]api.Slot{hot("k", "v", 0)}, slices.Delete(slices.Clone(s.Slots), 2, 3)...), Segments: s.Segments}
	if lies(y) != lies(want) || fmt.Sprint(r) != "{1 OK 0 []}" || e != api.OK {
		t.Errorf("%s %v %d", lies(y), r, e)
	}
}

func TestL3Errors(t *testing.T) {
	for _, now := range []int{near, -1, end + 1, far} {
		for _, l := range [][]string{nil, {"ping"}, {"set", "a", "1"}, {"what"}} {
			if y, r, e := cold.Do(mix(), now, l); !isZero(y) || !isZero(r) || e != api.ErrRange {
				t.Errorf("%q at %d: %s %v %d", l, now, lies(y), r, e)
			}
		}
	}
	for _, now := range []int{0, end} {
		if y, r, e := cold.Do(mix(), now, []string{"ping"}); lies(y) != lies(mix()) || r.Text != "PONG" || e != api.OK {
			t.Errorf("at %d: %s %v %d", now, lies(y), r, e)
		}
	}
}

// lines that scripts are drawn from; KEY is one of some keys.
const lines = "set KEY 1;set KEY 2;incrby KEY 1;append KEY x;append KEY ;get KEY;del KEY KEY;exists KEY KEY;type KEY;keys *;expire KEY 3;expire KEY 0;ttl KEY;persist KEY;rpush KEY a b;lpush KEY c;lpop KEY;rpop KEY;lrange KEY 0 -1;ltrim KEY 0 1;lrem KEY a;sadd KEY a b;sadd KEY b;srem KEY a;smembers KEY;sinter KEY KEY;sunion KEY KEY;hset KEY f 1;hset KEY f 1 g 2;hdel KEY f;hgetall KEY;zadd KEY 1 a 2 b;zadd KEY 2 a;zrem KEY b;zrange KEY 0 -1;zrank KEY a"

func drawn(d *rand.Rand, keys int) []string {
	all := strings.Split(lines, ";")
	l := strings.Split(all[d.Intn(len(all))], " ")
	for i := range l {
		if l[i] == "KEY" {
			l[i] = fmt.Sprint("k", d.Intn(keys))
		}
	}
	return l
}

// stir a store: some of it cools, or warms, or is gathered; how many went well of each.
func stir(d *rand.Rand, s api.Store, keys int, well map[string]int) api.Store {
	for range d.Intn(4) {
		y, e, name := s, api.ErrNone, ""
		key := fmt.Sprint("k", d.Intn(keys))
		switch n := d.Intn(20); {
		case n < 12:
			name = "cool"
			y, e = cold.Cool(s, key)
		case n < 18:
			name = "warm"
			y, e = cold.Warm(s, key)
		default: // seldom, so that all segments are full at times
			name = "gather"
			y, _, e = cold.Gather(s, d.Intn(len(s.Segments)+1))
		}
		if e == api.OK {
			s = y
		}
		well[fmt.Sprint(name, " ", e)]++
	}
	return s
}

// TestL4NeitherColdNorGatheredIsSeen: a store that is stirred goes as a space does.
func TestL4NeitherColdNorGatheredIsSeen(t *testing.T) {
	d := rand.New(rand.NewSource(12))
	well := map[string]int{}
	for range 40 {
		var s api.Space
		var st api.Store
		keys, now := 2+d.Intn(20), d.Intn(5)
		for range 200 {
			now += d.Intn(8) / 7
			st = stir(d, st, keys, well)
			if v, e := cold.View(st); seen(v) != seen(s) || e != api.OK {
				t.Fatalf("%s, must be %s", seen(v), seen(s))
			}
			l := drawn(d, keys)
			y, r, e := engine.Do(s, now, l)
			z, q, f := cold.Do(st, now, l)
			if e != api.OK || f != api.OK || fmt.Sprint(r) != fmt.Sprint(q) || cold.Check(z) != api.OK {
				t.Fatalf("%q of %s: %v %d, must be %v", l, lies(st), q, f, r)
			}
			s, st = y, z
		}
	}
	for _, name := range []string{"cool 0", "cool 2", "cool 4", "cool 5", "warm 0", "warm 4", "warm 5", "gather 0", "gather 5"} {
		if well[name] == 0 {
			t.Errorf("%s was never met: %v", name, well)
		}
	}
}

// roomy: a store whose lists have spare room behind them.
func roomy() api.Store {
	s := mix()
	y := api.Store{Slots: append(make([]api.Slot, 0, 20), s.Slots...), Segments: append(make([][]string, 0, 9), s.Segments...)}
	for i := range y.Slots {
		y.Slots[i].Item.List = append(make([]string, 0, 9), y.Slots[i].Item.List...)
	}
	for i := range y.Segments {
		y.Segments[i] = append(make([]string, 0, 5), y.Segments[i]...)
	}
	return y
}

// spoil all that a store's lists and the room behind them have.
func spoil(s api.Store) {
	words := func(l []string) {
		for i := range l[:cap(l)] {
			l[:cap(l)][i] = "spoilt"
		}
	}
	for i := range s.Slots[:cap(s.Slots)] {
		words(s.Slots[:cap(s.Slots)][i].Item.List)
		s.Slots[:cap(s.Slots)][i].Key = "spoilt"
	}
	for i := range s.Segments[:cap(s.Segments)] {
		words(s.Segments[:cap(s.Segments)][i])
		s.Segments[:cap(s.Segments)][i] = nil
	}
}

// all that a store has, with all the room behind its lists.
func all(s api.Store) string {
	out := ""
	for _, x := range s.Slots[:cap(s.Slots)] {
		out += fmt.Sprintf("%q %v %v %q; ", x.Key, x.Cold, x.Place, x.Item.List[:cap(x.Item.List)])
	}
	for _, segment := range s.Segments[:cap(s.Segments)] {
		out += fmt.Sprintf("%q ", segment[:cap(segment)])
	}
	return out
}

// calls: each answers a store, of a store.
func calls() map[string]func(s api.Store) api.Store {
	do := func(line string) func(s api.Store) api.Store {
		return func(s api.Store) api.Store { y, _, _ := cold.Do(s, 4, strings.Fields(line)); return y }
	}
	return map[string]func(s api.Store) api.Store{
		"Cool":          func(s api.Store) api.Store { y, _ := cold.Cool(s, "b"); return y },
		"Cool a text":   func(s api.Store) api.Store { y, _ := cold.Cool(s, ""); return y },
		"Warm":          func(s api.Store) api.Store { y, _ := cold.Warm(s, "a"); return y },
		"Gather 0":      func(s api.Store) api.Store { y, _, _ := cold.Gather(s, 0); return y },
		"Gather 1":      func(s api.Store) api.Store { y, _, _ := cold.Gather(s, 1); return y },
		"Gather 2":      func(s api.Store) api.Store { y, _, _ := cold.Gather(s, 2); return y },
		"Do ping":       do("ping"),
		"Do what":       do("what"),
		"Do rpush":      do("rpush b x"),
		"Do sadd":       do("sadd a x"),
		"Do set":        do("set aa x"),
		"Do del":        do("del a"),
		"Do expire":     do("expire b 9"),
		"Check and all": func(s api.Store) api.Store { cold.Check(s); v, _ := cold.View(s); return ofView(v) },
	}
}

// ofView: a view as a store of hot slots, which has its lists.
func ofView(v api.Space) api.Store {
	var s api.Store
	for _, e := range v {
		s.Slots = append(s.Slots, api.Slot{Key: e.Key, Item: e.Item, Until: e.Until})
	}
	return s
}

func TestP2WhatIsHandedInIsOnlyRead(t *testing.T) {
	for name, call := range calls() {
		s := roomy()
		y := call(s)
		if all(s) != all(roomy()) || len(y.Slots) == 0 {
			t.Errorf("%s: it is %s then", name, all(s))
		}
		was := lies(y)
		spoil(s)
		if lies(y) != was {
			t.Errorf("%s: %s, and was %s", name, lies(y), was)
		}
		s = roomy()
		spoil(call(s))
		if all(s) != all(roomy()) {
			t.Errorf("%s: an answer shares memory: %s", name, all(s))
		}
	}
}

// TestP2NoTwoListsShareMemory: not even if those that were handed in do.
func TestP2NoTwoListsShareMemory(t *testing.T) {
	list, records := api.Item{Kind: api.ItemList, List: []string{"x", "y"}}, seg("w x y")
	set, _ := item.Encode(kinds()[4])
	records[1] = set
	s := api.Store{Slots: []api.Slot{{Key: "", Item: list}, cool("a", 0, 1, 0), {Key: "b", Item: list}, cool("c", 0, 1, 0), {Key: "d", Item: list}}, Segments: [][]string{records, records, records}}
	for name, call := range calls() {
		y := call(s)
		for i := range y.Slots {
			spoil(api.Store{Slots: y.Slots[i : i+1 : i+1]})
			if rest := lies(api.Store{Slots: y.Slots[i+1:], Segments: y.Segments}); strings.Contains(rest, "spoilt") {
				t.Errorf("%s: two items share memory: %s", name, rest)
			}
		}
		for i := range y.Segments {
			spoil(api.Store{Segments: y.Segments[i : i+1 : i+1]})
			if rest := lies(api.Store{Segments: y.Segments[i+1:]}); strings.Contains(rest, "spoilt") {
				t.Errorf("%s: two segments share memory: %s", name, rest)
			}
		}
		if strings.Contains(lies(s), "spoilt") {
			t.Fatalf("%s: shares memory with what was handed in", name)
		}
	}
}

func TestP3TheSameEachTime(t *testing.T) {
	tell := func() string {
		names, out := []string{}, ""
		for name := range calls() {
			names = append(names, name)
		}
		slices.Sort(names)
		for _, name := range names {
			out += name + ": " + lies(calls()[name](mix())) + "\n"
		}
		return out
	}
	first := tell()
	for range 5 {
		if tell() != first {
			t.Fatal("another answer")
		}
	}
}
