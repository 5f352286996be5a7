package common

import (
	"math"
	"reflect"
	"testing"

	"springhouse/api"
)

func TestE1Nothing(t *testing.T) {
	for _, x := range []api.Item{{}, {List: []string{}, Pairs: []api.Pair{}, Scores: []api.Score{}}} {
		for kind := api.ItemText; kind <= api.ItemScore; kind++ {
			if e := Check(x, kind); e != api.OK {
				t.Errorf("kind %d: %d", kind, e)
			}
		}
	}
	for _, x := range []api.Item{{Text: "x"}, {List: []string{""}}, {Pairs: []api.Pair{{}}}, {Scores: []api.Score{{}}}} {
		for kind := api.ItemText; kind <= api.ItemScore; kind++ {
			if e := Check(x, kind); e != api.ErrKind {
				t.Errorf("kind %d, something without a kind: %d", kind, e)
			}
		}
	}
}

func TestE1Kinds(t *testing.T) {
	for _, x := range []api.Item{
		{Kind: api.ItemText},
		{Kind: api.ItemList, List: []string{"a"}},
		{Kind: api.ItemSet, List: []string{"a"}},
		{Kind: api.ItemHash, Pairs: []api.Pair{{}}},
		{Kind: api.ItemScore, Scores: []api.Score{{}}},
	} {
		for kind := api.ItemText; kind <= api.ItemScore; kind++ {
			want := api.ErrKind
			if kind == x.Kind {
				want = api.OK
			}
			if e := Check(x, kind); e != want {
				t.Errorf("kind %d for %d: %d, must be %d", x.Kind, kind, e, want)
			}
			x := x
			x.Text = "something that is too much, and more bytes than a text may have"
			want = api.ErrForm
			if x.Kind == api.ItemText {
				want = api.ErrMany
			}
			if e := Check(x, kind); e != want {
				t.Errorf("a wrong one of kind %d for %d: %d, must be %d", x.Kind, kind, e, want)
			}
		}
	}
}

func TestE1Right(t *testing.T) {
	for _, c := range []struct {
		x    api.Item
		want api.Errno
	}{
		{api.Item{}, api.OK},
		{api.Item{List: []string{}, Pairs: []api.Pair{}, Scores: []api.Score{}}, api.OK},
		{api.Item{Kind: api.ItemText}, api.OK},
		{api.Item{Kind: api.ItemList, List: []string{"b", "a"}}, api.OK},
		{api.Item{Kind: api.ItemScore, Scores: []api.Score{{}}}, api.OK},
		{api.Item{Text: "x"}, api.ErrKind},
		{api.Item{Kind: 6}, api.ErrKind},
		{api.Item{Kind: api.ItemList}, api.ErrNone},
		{api.Item{Kind: api.ItemSet, List: []string{"b", "a"}}, api.ErrState},
	} {
		if e := Right(c.x); e != c.want {
			t.Errorf("%v: %d, must be %d", c.x, e, c.want)
		}
	}
}

func TestP2CopyIsNewMemory(t *testing.T) {
	of := func() api.Item {
		return api.Item{Kind: 9, Text: "t", List: []string{"a", "b"}, Pairs: []api.Pair{{Field: "f", Value: "v"}}, Scores: []api.Score{{N: 1, Member: "m"}}}
	}
	x := of()
	y := Copy(x)
	if !reflect.DeepEqual(y, of()) {
		t.Errorf("%v", y)
	}
	y.List[1], y.Pairs[0].Value, y.Scores[0].N = "!", "!", 7
	if !reflect.DeepEqual(x, of()) {
		t.Errorf("%v", x)
	}
	if !IsNothing(Copy(api.Item{})) || !IsNothing(Copy(api.Item{List: []string{}})) {
		t.Error("nothing is something")
	}
}

func TestP2CopyStoreIsNewMemory(t *testing.T) {
	store := func() api.Store {
		return api.Store{
			Slots: []api.Slot{
				{Key: "a", Item: api.Item{Kind: api.ItemList, List: []string{"x"}}, Until: 5},
				{Key: "b", Item: api.Item{Kind: api.ItemHash, Pairs: []api.Pair{{Field: "f"}}}},
				{Key: "c", Item: api.Item{Kind: api.ItemScore, Scores: []api.Score{{N: 1, Member: "m"}}}},
				{Key: "d", Cold: true, Place: api.Place{Segment: 1}},
			},
			Segments: [][]string{{"\x01x", "\x01y"}, {"\x01z"}},
		}
	}
	s := store()
	y := CopyStore(s)
	if !reflect.DeepEqual(y, s) {
		t.Fatalf("%v, must be %v", y, s)
	}
	y.Slots[0].Item.List[0], y.Slots[1].Item.Pairs[0].Field, y.Slots[2].Item.Scores[0].Member = "spoilt", "spoilt", "spoilt"
	y.Slots[3].Key, y.Segments[0][1], y.Segments[1] = "spoilt", "spoilt", nil
	if !reflect.DeepEqual(s, store()) {
		t.Errorf("it shares memory: %v", s)
	}
	if y := CopyStore(api.Store{}); len(y.Slots)+len(y.Segments) != 0 {
		t.Errorf("of none: %v", y)
	}
}

// TestE2Places: each place is asked by itself, as the document says it.
func TestE2Places(t *testing.T) {
	for n := range 6 {
		for from := -9; from <= 9; from++ {
			for to := -9; to <= 9; to++ {
				first, behind := Places(n, from, to)
				if first < 0 || first > behind || behind > n {
					t.Fatalf("%d of them, %d to %d: %d to %d", n, from, to, first, behind)
				}
				for i := range n {
					notAhead := from < 0 && i-n >= from || from >= 0 && i >= from
					notBehind := to < 0 && i-n <= to || to >= 0 && i <= to
					if (notAhead && notBehind) != (first <= i && i < behind) {
						t.Errorf("%d of them, %d to %d: %d to %d", n, from, to, first, behind)
					}
				}
			}
		}
	}
}

func TestE2PlacesFarOff(t *testing.T) {
	const far, near = math.MaxInt, math.MinInt
	for _, c := range [][5]int{
		{4, near, far, 0, 4}, {4, near, -1, 0, 4}, {4, near, 0, 0, 1}, {4, near, -4, 0, 1}, {4, 3, far, 3, 4}, {4, -1, far, 3, 4},
		{4, far, near, 0, 0}, {4, far, far, 0, 0}, {4, near, near, 0, 0}, {4, 4, far, 0, 0}, {4, near, -5, 0, 0}, {0, near, far, 0, 0}, {0, 0, 0, 0, 0}, {0, 0, -1, 0, 0},
	} {
		if first, behind := Places(c[0], c[1], c[2]); first != c[3] || behind != c[4] {
			t.Errorf("%v: %d to %d", c, first, behind)
		}
	}
}

func TestD1IsLong(t *testing.T) {
	for n, want := range map[int]bool{0: false, 1: false, 59: false, 60: false, 61: true, 100000: true} {
		if got := IsLong(string(make([]byte, n))); got != want {
			t.Errorf("%d bytes: %v", n, got)
		}
	}
}

func TestJ1IsTime(t *testing.T) {
	for n, want := range map[int]bool{math.MinInt: false, -1: false, 0: true, 1: true, 999999: true, 1000000: true, 1000001: false, math.MaxInt: false} {
		if got := IsTime(n); got != want {
			t.Errorf("%d: %v", n, got)
		}
	}
}
