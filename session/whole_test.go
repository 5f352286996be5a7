package session_test

import (
	"fmt"
	"math/rand"
	"reflect"
	"slices"
	"strings"
	"testing"

	"springhouse/api"
	"springhouse/cold"
	"springhouse/engine"
	"springhouse/feed"
	"springhouse/glob"
	"springhouse/hash"
	"springhouse/item"
	"springhouse/list"
	"springhouse/reply"
	"springhouse/score"
	"springhouse/session"
	"springhouse/set"
	"springhouse/space"
	"springhouse/text"
)

// The tests of this file go through the lines of the document's section 'What the whole promises', one by one, over the layers together; each layer's own tests have the edges.

// some bytes, few kinds of them, so that they are met again; none of them at times.
func some(d *rand.Rand, most int) string {
	b := make([]byte, d.Intn(most+1))
	for i := range b {
		b[i] = "ab\x00\xff\r\n*$"[d.Intn(8)]
	}
	return string(b)
}

// several texts, at least one.
func several(d *rand.Rand, most int) []string {
	var l []string
	for range 1 + d.Intn(most) {
		l = append(l, some(d, 2))
	}
	return l
}

// asSet: texts rising, each once.
func asSet(l []string) []string {
	l = slices.Clone(l)
	slices.Sort(l)
	return slices.Compact(l)
}

func drawnItem(d *rand.Rand) api.Item {
	l := several(d, 24)
	x := api.Item{Kind: 1 + d.Intn(5)}
	switch x.Kind {
	case api.ItemText:
		x.Text = some(d, 60)
	case api.ItemList:
		x.List = l
	case api.ItemSet:
		x.List = asSet(l)
	case api.ItemHash:
		for _, s := range asSet(l) {
			x.Pairs = append(x.Pairs, api.Pair{Field: s, Value: some(d, 60)})
		}
	case api.ItemScore:
		n := -api.MaxInt
		for _, s := range asSet(l) {
			n += d.Intn(80000000)
			x.Scores = append(x.Scores, api.Score{N: n, Member: s})
		}
	}
	return x
}

func drawnReply(d *rand.Rand, level int) api.Reply {
	r := api.Reply{Kind: 1 + d.Intn(6-level)}
	switch r.Kind {
	case api.ReplyText:
		r.Text = strings.Repeat("aZ 09", 4)[:1+d.Intn(20)]
	case api.ReplyError:
		r.N = 1 + d.Intn(8)
	case api.ReplyNumber:
		r.N = d.Intn(2*api.MaxInt+1) - api.MaxInt
	case api.ReplyBytes:
		r.Text = some(d, 60)
	case api.ReplyList:
		for range d.Intn(20) {
			r.List = append(r.List, drawnReply(d, 1))
		}
	}
	return r
}

// bent: bytes with one of them another one, or more, or less.
func bent(d *rand.Rand, s string) string {
	at := d.Intn(len(s) + 1)
	switch d.Intn(3) {
	case 0:
		return s[:at]
	case 1:
		return s[:at] + some(d, 1) + s[at:]
	}
	return s[:at] + string([]byte{byte(d.Intn(256))}) + s[min(at+1, len(s)):]
}

func TestWholeWhatIsEncodedIsDecodedAsItWas(t *testing.T) {
	d := rand.New(rand.NewSource(1))
	for range 3000 {
		r, x := drawnReply(d, 0), drawnItem(d)
		s, e := reply.Encode(r)
		if y, f := reply.Decode(s); !reflect.DeepEqual(y, r) || e != api.OK || f != api.OK {
			t.Fatalf("%v %d: %q, %v %d", r, e, s, y, f)
		}
		b, e := item.Encode(x)
		if y, f := item.Decode(b); !reflect.DeepEqual(y, x) || e != api.OK || f != api.OK {
			t.Fatalf("%v %d: %q, %v %d", x, e, b, y, f)
		}
	}
}

// TestWholeNothingElseIsDecoded: what is decoded has just those bytes, if it is encoded again.
func TestWholeNothingElseIsDecoded(t *testing.T) {
	d := rand.New(rand.NewSource(2))
	met := map[string]int{}
	for range 20000 {
		s, _ := reply.Encode(drawnReply(d, 0))
		s = bent(d, s)
		r, e := reply.Decode(s)
		if b, f := reply.Encode(r); e == api.OK && (b != s || f != api.OK) {
			t.Fatalf("%q is decoded: %v", s, r)
		}
		met[fmt.Sprint("reply ", e == api.OK)]++
		s, _ = item.Encode(drawnItem(d))
		s = bent(d, s)
		x, e := item.Decode(s)
		if b, f := item.Encode(x); e == api.OK && (b != s || f != api.OK) {
			t.Fatalf("%q is decoded: %v", s, x)
		}
		met[fmt.Sprint("item ", e == api.OK)]++
	}
	if len(met) != 4 {
		t.Errorf("not all were met: %v", met)
	}
}

func TestWholeInWhateverPiecesAStreamComes(t *testing.T) {
	d := rand.New(rand.NewSource(3))
	for range 300 {
		var want [][]string
		all := ""
		for range d.Intn(12) {
			l := several(d, 12)
			s, e := feed.Words(l)
			if e != api.OK {
				t.Fatalf("%q: %d", l, e)
			}
			want, all = append(want, l), all+s
		}
		tail := []string{"", "*", "*1\r\n", "*2\r\n$1\r\na\r\n$"}[d.Intn(4)]
		all += tail
		var got [][]string
		rest := ""
		for at := 0; at < len(all); {
			n := min(d.Intn(30), len(all)-at)
			l, left, e := feed.Feed(rest, all[at:at+n])
			if e != api.OK {
				t.Fatalf("%q: %d", all, e)
			}
			got, rest, at = append(got, l...), left, at+n
		}
		if fmt.Sprintf("%q", got) != fmt.Sprintf("%q", want) || rest != tail {
			t.Fatalf("%q: %q and %q, must be %q and %q", all, got, rest, want, tail)
		}
	}
}

func TestWholeWhatAStarMatchesIsAny(t *testing.T) {
	d := rand.New(rand.NewSource(4))
	for range 2000 {
		a, any, b := some(d, 9), some(d, 40), some(d, 9)
		plain := strings.NewReplacer("*", `\*`)
		for _, p := range []string{"*", plain.Replace(a) + "*", "*" + plain.Replace(b), plain.Replace(a) + "*" + plain.Replace(b)} {
			if ok, e := glob.Match(p, a+any+b); !ok || e != api.OK {
				t.Fatalf("%q, %q: %v %d", p, a+any+b, ok, e)
			}
		}
		if ok, _ := glob.Match(plain.Replace(a)+"x*", a+any); ok {
			t.Fatalf("%q and x is a beginning of %q", a, a+any)
		}
	}
}

func TestWholeWhatIsAppendedIsBehind(t *testing.T) {
	d := rand.New(rand.NewSource(5))
	for range 500 {
		x, was := api.Item{}, ""
		for range 8 {
			s := some(d, 20)
			y, n, e := text.Append(x, s)
			if len(was+s) > api.MaxBytes {
				if e != api.ErrMany {
					t.Fatalf("%q and %q: %v %d", was, s, y, e)
				}
				continue
			}
			all, _ := text.Range(y, 0, -1)
			behind, _ := text.Range(y, len(was), -1)
			if all != was+s || behind != s || n != len(was+s) || e != api.OK {
				t.Fatalf("%q and %q: %q %q %d %d", was, s, all, behind, n, e)
			}
			x, was = y, was+s
		}
	}
}

func TestWholeWhatIsPushedIsPopped(t *testing.T) {
	d := rand.New(rand.NewSource(6))
	for range 500 {
		left, l := d.Intn(2) == 0, several(d, 24)
		for _, other := range []bool{false, true} {
			x, n, e := list.Push(api.Item{}, left, l)
			if n != len(l) || e != api.OK {
				t.Fatalf("%q: %d %d", l, n, e)
			}
			for i := range l {
				want := l[len(l)-1-i]
				if other {
					want = l[i]
				}
				y, s, e := list.Pop(x, left != other)
				if s != want || e != api.OK {
					t.Fatalf("%q, the %dth of them: %q %d, must be %q", l, i, s, e, want)
				}
				x = y
			}
			if _, _, e := list.Pop(x, left); e != api.ErrNone {
				t.Fatalf("%q: more is popped than was pushed: %d", l, e)
			}
		}
	}
}

func TestWholeMeetIsInEachAndEachIsInJoin(t *testing.T) {
	d := rand.New(rand.NewSource(7))
	for range 1000 {
		var l []api.Item
		for range 1 + d.Intn(4) {
			x, _, _ := set.Add(api.Item{}, several(d, 20))
			l = append(l, x)
		}
		meet, e := set.Meet(l)
		join, f := set.Join(l)
		if e != api.OK || f != api.OK {
			t.Fatalf("%v: %d %d", l, e, f)
		}
		count := map[string]int{}
		for _, x := range l {
			for _, s := range x.List {
				count[s]++
			}
		}
		for s, n := range count {
			if slices.Contains(meet, s) != (n == len(l)) || !slices.Contains(join, s) {
				t.Fatalf("%q of %v: Meet %q, Join %q", s, l, meet, join)
			}
		}
		if len(join) != len(count) || !slices.Equal(asSet(meet), meet) || !slices.Equal(asSet(join), join) || slices.ContainsFunc(meet, func(s string) bool { return count[s] == 0 }) {
			t.Fatalf("%v: Meet %q, Join %q", l, meet, join)
		}
	}
}

func TestWholeWhatWasPutLastIsGot(t *testing.T) {
	d := rand.New(rand.NewSource(8))
	for range 100 {
		x, fields := api.Item{}, map[string]string{}
		var s api.Space
		keys := map[string]api.Item{}
		for range 40 {
			p := api.Pair{Field: fmt.Sprint(d.Intn(24)), Value: some(d, 9)}
			y, _, e := hash.Put(x, []api.Pair{{Field: p.Field, Value: "first"}, p})
			if e != api.OK {
				t.Fatal(e)
			}
			x, fields[p.Field] = y, p.Value
			for field, want := range fields {
				if v, e := hash.Get(x, field); v != want || e != api.OK {
					t.Fatalf("%q of %v: %q %d, must be %q", field, x, v, e, want)
				}
			}
			key, it := fmt.Sprint(d.Intn(16)), drawnItem(d)
			z, e := space.Put(s, 5, key, it, []int{0, 6, end}[d.Intn(3)])
			if e != api.OK {
				t.Fatal(e)
			}
			s, keys[key] = z, it
			for key, want := range keys {
				if v, e := space.Get(s, 5, key); !reflect.DeepEqual(v, want) || e != api.OK {
					t.Fatalf("%q of %v: %v %d, must be %v", key, s, v, e, want)
				}
			}
		}
	}
}

func TestWholeRanksArePlaces(t *testing.T) {
	d := rand.New(rand.NewSource(9))
	for range 500 {
		var l []api.Score
		for range 1 + d.Intn(24) {
			l = append(l, api.Score{N: d.Intn(7) - 3, Member: some(d, 2)})
		}
		x, n, e := score.Put(api.Item{}, l)
		all, f := score.Range(x, 0, -1)
		if e != api.OK || f != api.OK || len(all) != n {
			t.Fatalf("%v: %v %d %d", l, x, e, f)
		}
		for i, member := range all {
			rank, e := score.Rank(x, member)
			at, f := score.Range(x, rank, rank)
			if rank != i || e != api.OK || f != api.OK || !slices.Equal(at, []string{member}) {
				t.Fatalf("%q of %v: %d %d, %q %d", member, x, rank, e, at, f)
			}
		}
	}
}

// drawnSpace: some of it is gone at 5.
func drawnSpace(d *rand.Rand) api.Space {
	var s api.Space
	for i := range 10 {
		if d.Intn(3) > 0 {
			s = append(s, api.Entry{Key: fmt.Sprint("k", i), Item: drawnItem(d), Until: []int{0, 3, 5, 6, end}[d.Intn(5)]})
		}
	}
	return s
}

// sight of a space at 5, by all calls that look.
func sight(s api.Space) string {
	keys, e := space.Keys(s, 5, "*")
	out := fmt.Sprintf("%q %d; ", keys, e)
	for i := range 10 {
		x, e := space.Get(s, 5, fmt.Sprint("k", i))
		n, f := space.Until(s, 5, fmt.Sprint("k", i))
		out += fmt.Sprintf("%v %d, %d %d; ", x, e, n, f)
	}
	return out
}

func TestWholeASweepChangesNothingThatIsSeen(t *testing.T) {
	d := rand.New(rand.NewSource(10))
	gone := 0
	for range 1000 {
		s := drawnSpace(d)
		y, n, e := space.Sweep(s, 5)
		if sight(y) != sight(s) || n != len(s)-len(y) || e != api.OK {
			t.Fatalf("%v: %v %d %d", s, y, n, e)
		}
		gone += n
	}
	if gone == 0 {
		t.Error("nothing went")
	}
}

const looks = "ping;get KEY;strlen KEY;getrange KEY 0 -2;exists KEY KEY;type KEY;keys *;keys k[0-4];ttl KEY;lrange KEY 0 -1;sismember KEY a;smembers KEY;sinter KEY KEY;sunion KEY KEY;sdiff KEY KEY;hget KEY f;hgetall KEY;zscore KEY a;zrank KEY a;zrange KEY 0 -1;zrangebyscore KEY 0 9"

func TestWholeWhatOnlyReadsChangesNothing(t *testing.T) {
	d := rand.New(rand.NewSource(11))
	for range 3000 {
		s, l := drawnSpace(d), drawn(d, looks)
		y, _, e := engine.Do(s, 5, l)
		if fmt.Sprint(y) != fmt.Sprint(s) || e != api.OK {
			t.Fatalf("%q of %v: %v %d", l, s, y, e)
		}
	}
}

func TestWholeWhatOneAnswersHangsOnWhatIsThereAlone(t *testing.T) {
	d := rand.New(rand.NewSource(12))
	for range 5000 {
		s, l := drawnSpace(d), drawn(d, lines)
		swept, _, _ := space.Sweep(s, 5)
		y, r, e := engine.Do(s, 5, l)
		z, q, f := engine.Do(swept, 5, l)
		if sight(y) != sight(z) || fmt.Sprint(r) != fmt.Sprint(q) || e != api.OK || f != api.OK {
			t.Fatalf("%q of %v: %v %v, without those that are gone %v %v", l, s, y, r, z, q)
		}
	}
}

// stirred: a store, some of which cools, warms or is gathered.
func stirred(d *rand.Rand, st api.Store) api.Store {
	for range 4 {
		y, e := st, api.OK
		switch key := fmt.Sprint("k", d.Intn(6)); d.Intn(3) {
		case 0:
			y, e = cold.Cool(st, key)
		case 1:
			y, e = cold.Warm(st, key)
		case 2:
			y, _, e = cold.Gather(st, d.Intn(api.MaxSegments))
		}
		if e == api.OK {
			st = y
		}
	}
	return st
}

// TestWholeNeitherColdNorGatheredIsSeen: by a client, whose store is stirred between the pieces.
func TestWholeNeitherColdNorGatheredIsSeen(t *testing.T) {
	d := rand.New(rand.NewSource(13))
	lay := 0
	for range 40 {
		var calm, wild client
		for range 30 {
			b := stream(d, d.Intn(4), lines+wrong)
			calm, wild = calm.come(t, 5, b), wild.come(t, 5, b)
			wild.st = stirred(d, wild.st)
			lay += len(wild.st.Segments)
			a, e := cold.View(calm.st)
			v, f := cold.View(wild.st)
			if fmt.Sprint(a) != fmt.Sprint(v) || e != api.OK || f != api.OK || wild.out != calm.out || tell(api.Store{}, wild.s) != tell(api.Store{}, calm.s) {
				t.Fatalf("%q: it is\n%s\nand must be\n%s", b, wild.tell(), calm.tell())
			}
		}
	}
	if lay == 0 {
		t.Error("nothing was ever cold")
	}
}

// TestWholeInWhateverPiecesBytesCome: by a client, byte by byte; what is put by is done as one, or not at all, all the same.
func TestWholeInWhateverPiecesBytesCome(t *testing.T) {
	all := script("rpush l 1 2 3;multi;lpop l;rpush m x;lrange l 0 -1;exec;multi;del l m;get;exec;multi;del l m;discard;exists l m;multi;del l m")
	want := bytes(":3 +OK +QUEUED +QUEUED +QUEUED *3 $1 1 :1 :2 +OK +QUEUED -1 -4 +OK +QUEUED +OK :2 +OK +QUEUED")
	var c client
	for i := range len(all) {
		st, s, out, e := session.Step(c.st, c.s, 5, all[i:i+1])
		if e != api.OK {
			t.Fatal(e)
		}
		c = client{st, s, c.out + out}
	}
	keys, _, _ := engine.Do(nil, 5, words("rpush l 2 3"))
	keys, _, _ = engine.Do(keys, 5, words("rpush m x"))
	v, _ := cold.View(c.st)
	if c.out != want || fmt.Sprint(v) != fmt.Sprint(keys) || tell(api.Store{}, c.s) != tell(api.Store{}, put("del l m")) {
		t.Errorf("%s, must have answered %q", c.tell(), want)
	}
}
