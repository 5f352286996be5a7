package session_test

import (
	"fmt"
	"math/rand"
	"reflect"
	"slices"
	"strings"
	"testing"

	"springhouse/api"
	"springhouse/cold"
	"springhouse/feed"
	"springhouse/reply"
	"springhouse/session"
)

// lines that scripts are drawn from; KEY is one of some keys. Some of them are wrong.
const lines = "multi;MULTI;exec;exec;Exec;discard;multi x;ping;set KEY 1;set KEY 2;incrby KEY 1;append KEY x;get KEY;get KEY;del KEY KEY;exists KEY KEY;type KEY;keys *;keys [;expire KEY 3;expire KEY 0;ttl KEY;persist KEY;rpush KEY a b;lpush KEY c;lpop KEY;rpop KEY;lrange KEY 0 -1;ltrim KEY 0 1;lrem KEY a;sadd KEY a b;srem KEY a;smembers KEY;sinter KEY KEY;sunion KEY KEY;hset KEY f 1 g 2;hget KEY f;hdel KEY f;hgetall KEY;zadd KEY 1 a 2 b;zrem KEY b;zrange KEY 0 -1;zrank KEY a"

// wrong lines, which break what is put by.
const wrong = ";what;get;incrby KEY x"

func drawn(d *rand.Rand, from string) []string {
	all := strings.Split(from, ";")
	l := words(all[d.Intn(len(all))])
	for i := range l {
		if l[i] == "KEY" {
			l[i] = fmt.Sprint("k", d.Intn(6))
		}
	}
	return l
}

// stream of commands that are drawn.
func stream(d *rand.Rand, n int, from string) string {
	out := ""
	for range n {
		s, _ := feed.Words(drawn(d, from))
		out += s
	}
	return out
}

// client: a store, a session, and all that was answered.
type client struct {
	st  api.Store
	s   api.Session
	out string
}

// come: bytes come, all at once.
func (c client) come(t *testing.T, now int, b string) client {
	t.Helper()
	st, s, out, e := session.Step(c.st, c.s, now, b)
	if e != api.OK || cold.Check(st) != api.OK || session.Check(s) != api.OK {
		t.Fatalf("%q of %s: %d; the store then: %d, the session: %d", b, tell(c.st, c.s), e, cold.Check(st), session.Check(s))
	}
	return client{st, s, c.out + out}
}

func (c client) tell() string { return fmt.Sprintf("%s %q", tell(c.st, c.s), c.out) }

func TestM3EachCut(t *testing.T) {
	all := script("multi;set t 9;lpush t x;keys *;EXEC;get t;multi;del h;what;exec;exists h;multi;del l;discard;lrange l 0 -1;multi;ping;multi") + "*2\r\n$3\r\nge"
	for _, s := range []api.Session{{}, put("append t !"), {Multi: true, Broken: true}} {
		once := client{st: mix(), s: s}.come(t, 5, all)
		for cut := range len(all) + 1 {
			twice := client{st: mix(), s: s}.come(t, 5, all[:cut]).come(t, 5, all[cut:])
			if twice.tell() != once.tell() {
				t.Fatalf("cut at %d: it is\n%s\nand must be\n%s", cut, twice.tell(), once.tell())
			}
		}
	}
}

func TestM3InWhateverPieces(t *testing.T) {
	d := rand.New(rand.NewSource(13))
	for range 60 {
		from := lines
		if d.Intn(2) == 0 {
			from += wrong
		}
		all := stream(d, 1+d.Intn(60), from)
		all = all[:len(all)-d.Intn(12)]
		once := client{st: mix()}.come(t, 5, all)
		for _, most := range []int{1, 9, 200} {
			many := client{st: mix()}
			for at := 0; at < len(all); {
				n := min(d.Intn(most+1), len(all)-at) // at times none come
				many = many.come(t, 5, all[at:at+n])
				at += n
			}
			if many.tell() != once.tell() {
				t.Fatalf("%q in pieces of at most %d: it is\n%s\nand must be\n%s", all, most, many.tell(), once.tell())
			}
		}
	}
}

// TestM3AnErrorInPieces: up to the error the pieces are no matter either; bytes behind it, in a later piece, are a new stream.
func TestM3AnErrorInPieces(t *testing.T) {
	all := script("multi;set t 9;exec;multi;del h") + "*1\r\n$9x"
	once := client{st: mix()}.come(t, 5, all)
	if want := bytes("+OK +QUEUED *1 +OK +OK +QUEUED -1"); once.out != want || !isZero(once.s) {
		t.Fatalf("%s", once.tell())
	}
	for cut := range len(all) + 1 {
		twice := client{st: mix()}.come(t, 5, all[:cut]).come(t, 5, all[cut:])
		if twice.tell() != once.tell() {
			t.Fatalf("cut at %d: %s", cut, twice.tell())
		}
	}
}

// TestM3AsOneOrNotAtAll: till exec nothing is done; then all of it, as if it were told without multi; of what was broken, or is discarded, or ends with an error of the stream, nothing.
func TestM3AsOneOrNotAtAll(t *testing.T) {
	d := rand.New(rand.NewSource(31))
	const ways = 4
	met := [ways]int{}
	const plain = "set KEY 1;incrby KEY 1;append KEY x;get KEY;del KEY KEY;keys *;expire KEY 3;rpush KEY a b;lpop KEY;lrange KEY 0 -1;sadd KEY a b;smembers KEY;hset KEY f 1;hgetall KEY;zadd KEY 1 a;zrange KEY 0 -1"
	for range 300 {
		start := client{st: mix()}.come(t, 5, stream(d, 20, plain))
		start.out = ""
		n := d.Intn(api.MaxQueue + 1)
		inside := stream(d, n, plain)
		held := start.come(t, 5, script("multi")+inside)
		if tell(held.st, api.Session{}) != tell(start.st, api.Session{}) || held.out != bytes("+OK"+strings.Repeat(" +QUEUED", n)) || len(held.s.Queue) != n {
			t.Fatalf("%q, put by: %s", inside, held.tell())
		}
		held.out = ""
		way := d.Intn(ways)
		met[way]++
		switch way {
		case 0:
			free := start.come(t, 5, inside)
			done := held.come(t, 5, script("exec"))
			if tell(done.st, done.s) != tell(free.st, free.s) {
				t.Fatalf("%q: it is\n%s\nand must be\n%s", inside, done.tell(), free.tell())
			}
			if want := asList(t, start, inside); done.out != want {
				t.Fatalf("%q: %q, must be %q", inside, done.out, want)
			}
		case 1:
			same(t, start, held.come(t, 5, script("what;exec")), "-5 -4")
		case 2:
			same(t, start, held.come(t, 5, script("discard")), "+OK")
		case 3:
			same(t, start, held.come(t, 5, "*1\r\n$x"), "-1")
		}
	}
	for way, n := range met {
		if n == 0 {
			t.Errorf("way %d was never gone", way)
		}
	}
}

func same(t *testing.T, start, then client, out string) {
	t.Helper()
	if tell(then.st, then.s) != tell(start.st, start.s) || then.out != bytes(out) {
		t.Fatalf("it is\n%s\nand must be\n%s, answered %q", then.tell(), start.tell(), out)
	}
}

// asList: what exec must answer of commands: the reply of each, told by itself, lists as numbers.
func asList(t *testing.T, c client, b string) string {
	t.Helper()
	commands, _, _ := feed.Feed("", b)
	out := fmt.Sprintf("*%d\r\n", len(commands))
	for _, l := range commands {
		b, _ := feed.Words(l)
		c.out = ""
		c = c.come(t, 5, b)
		r, e := reply.Decode(c.out)
		if e != api.OK {
			t.Fatalf("%q answers %q", l, c.out)
		}
		if r.Kind == api.ReplyList {
			out += fmt.Sprintf(":%d\r\n", len(r.List))
		} else {
			out += c.out
		}
	}
	return out
}

// TestP1WhateverComes: bytes of all sorts come, and sessions of all sorts are handed in.
func TestP1WhateverComes(t *testing.T) {
	d := rand.New(rand.NewSource(1))
	met := map[api.Errno]int{}
	some := []string{"", "*", "*1\r\n", script("ping"), long(1200), long(1201), "*1\r\n$4\r\nex", "\xff\x00"}
	for range 4000 {
		b := []byte(stream(d, d.Intn(8), lines+wrong))
		for range d.Intn(3) * d.Intn(2) {
			if len(b) > 0 {
				b[d.Intn(len(b))] = "*$\r\n0123456789ax\x00\xff"[d.Intn(18)]
			}
		}
		s := api.Session{Multi: d.Intn(4) > 0, Broken: d.Intn(4) == 0}
		if d.Intn(2) == 0 {
			s.Rest = some[d.Intn(len(some))]
		}
		for range d.Intn(12) * d.Intn(2) {
			s.Queue = append(s.Queue, drawn(d, lines[strings.Index(lines, "ping"):]))
		}
		if d.Intn(20) == 0 {
			s.Queue = append(s.Queue, nil)
		}
		now := []int{5, 5, 5, 5, 0, end, -1, near, far}[d.Intn(9)]
		st, y, out, e := session.Step(mix(), s, now, string(b))
		met[e]++
		if e != api.OK {
			if !isZero(st) || !isZero(y) || out != "" {
				t.Fatalf("%v, %q: %s %q %d", s, b, tell(st, y), out, e)
			}
			continue
		}
		if cold.Check(st) != api.OK || session.Check(y) != api.OK {
			t.Fatalf("%v, %q: %s", s, b, tell(st, y))
		}
	}
	for _, e := range []api.Errno{api.OK, api.ErrForm, api.ErrMany, api.ErrRange, api.ErrState} {
		if met[e] == 0 {
			t.Errorf("%d was never met: %v", e, met)
		}
	}
}

// roomy: a store and a session whose lists have spare room behind them.
func roomy() (api.Store, api.Session) {
	st, s := mix(), put("ping;set t 9;rpush l x")
	st.Slots = append(make([]api.Slot, 0, 20), st.Slots...)
	for i := range st.Slots {
		x := &st.Slots[i].Item
		x.List = append(make([]string, 0, 9), x.List...)
		x.Pairs = append(make([]api.Pair, 0, 9), x.Pairs...)
		x.Scores = append(make([]api.Score, 0, 9), x.Scores...)
	}
	st.Segments = append(make([][]string, 0, 9), st.Segments...)
	for i := range st.Segments {
		st.Segments[i] = append(make([]string, 0, 5), st.Segments[i]...)
	}
	s.Queue = append(make([][]string, 0, 12), s.Queue...)
	for i := range s.Queue {
		s.Queue[i] = append(make([]string, 0, 5), s.Queue[i]...)
	}
	return st, s
}

func whole[T any](l []T) []T { return l[:cap(l)] }

func spoilWords(l []string) {
	for i := range whole(l) {
		whole(l)[i] = "spoilt"
	}
}

// spoil all that the lists of a store and a session have, and the room behind them.
func spoil(st api.Store, s api.Session) {
	for i := range whole(st.Slots) {
		x := &whole(st.Slots)[i]
		spoilWords(x.Item.List)
		for j := range whole(x.Item.Pairs) {
			whole(x.Item.Pairs)[j].Field = "spoilt"
		}
		for j := range whole(x.Item.Scores) {
			whole(x.Item.Scores)[j].Member = "spoilt"
		}
		x.Key = "spoilt"
	}
	for _, l := range [][][]string{st.Segments, s.Queue} {
		for i := range whole(l) {
			spoilWords(whole(l)[i])
			whole(l)[i] = []string{"spoilt"}
		}
	}
}

// deep: all that a store and a session have, with the room behind their lists.
func deep(st api.Store, s api.Session) string {
	out := ""
	for _, x := range whole(st.Slots) {
		i := x.Item
		out += fmt.Sprintf("%q %v %v %d %q %q %v; ", x.Key, x.Cold, x.Place, x.Until, whole(i.List), whole(i.Pairs), whole(i.Scores))
	}
	for _, l := range [][][]string{st.Segments, s.Queue} {
		for _, x := range whole(l) {
			out += fmt.Sprintf("%q ", whole(x))
		}
	}
	return out + fmt.Sprintf("%q %v %v", s.Rest, s.Multi, s.Broken)
}

// comings: bytes that come in tests of memory: nothing is whole, something is put by, done, discarded, or wrong.
func comings() []string {
	return []string{"", "*1\r\n$4", script("ping"), script("ping;get t;what"), script("exec"), script("discard"), script("discard;rpush l x;sadd s x;set q 1"), script("get t") + "?", script("multi"), script("exec;multi;hset h f 9;zadd z 9 a;lpush l x y")}
}

func TestP2WhatIsHandedInIsOnlyRead(t *testing.T) {
	for _, b := range comings() {
		st, s := roomy()
		was := deep(st, s)
		session.Check(s)
		y, z, _, e := session.Step(st, s, 5, b)
		if deep(st, s) != was || e != api.OK {
			t.Errorf("%q: it is then\n%s\nand was\n%s", b, deep(st, s), was)
		}
		now := tell(y, z)
		spoil(st, s)
		if tell(y, z) != now {
			t.Errorf("%q: a later change is seen: %s", b, tell(y, z))
		}
		st, s = roomy()
		y, z, _, _ = session.Step(st, s, 5, b)
		spoil(y, z)
		if deep(st, s) != was {
			t.Errorf("%q: the answer is not new memory: %s", b, deep(st, s))
		}
	}
}

// TestP2NoTwoListsShareMemory: not even if those that are handed in do.
func TestP2NoTwoListsShareMemory(t *testing.T) {
	for _, b := range comings() {
		st, s := roomy()
		l := st.Slots[1].Item
		st.Slots = append(st.Slots, api.Slot{Key: "zz", Item: l})
		st.Segments[1] = st.Segments[0]
		s.Queue = [][]string{{"get", "t"}, nil}
		s.Queue[1] = s.Queue[0]
		y, z, _, e := session.Step(st, s, 5, b)
		if e != api.OK {
			t.Fatal(e)
		}
		lists := slices.Concat(y.Segments, z.Queue)
		for _, x := range y.Slots {
			lists = append(lists, x.Item.List)
		}
		for i := range lists {
			spoilWords(lists[i])
			for _, other := range lists[i+1:] {
				if slices.Contains(other, "spoilt") {
					t.Errorf("%q: two lists share memory: %q", b, lists)
				}
			}
		}
	}
}

func TestP3TheSameEachTime(t *testing.T) {
	for _, b := range comings() {
		for _, s := range []api.Session{{}, put("keys *;smembers s;incrby t 1")} {
			st, y, out, e := session.Step(mix(), s, 5, b)
			for range 5 {
				st2, y2, out2, e2 := session.Step(mix(), s, 5, b)
				if !reflect.DeepEqual(st, st2) || !reflect.DeepEqual(y, y2) || out != out2 || e != e2 {
					t.Fatalf("%q: %s %q %d, and %s %q %d", b, tell(st, y), out, e, tell(st2, y2), out2, e2)
				}
			}
		}
	}
}
