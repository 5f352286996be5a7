package session_test

import (
	"fmt"
	"math"
	"reflect"
	"slices"
	"strings"
	"testing"

	"springhouse/api"
	"springhouse/cold"
	"springhouse/feed"
	"springhouse/session"
)

const end, far, near = api.MaxTime, math.MaxInt, math.MinInt

func long(n int) string { return strings.Repeat("L", n) }
func isZero(x any) bool { return reflect.ValueOf(x).IsZero() }

// words of a line; ” stands for an empty one.
func words(line string) []string {
	l := strings.Fields(line)
	for i := range l {
		if l[i] == "''" {
			l[i] = ""
		}
	}
	return l
}

// script: the bytes of commands, between semicolons.
func script(lines string) string {
	out := ""
	for _, line := range strings.Split(lines, ";") {
		s, e := feed.Words(words(line))
		if e != api.OK {
			panic(line)
		}
		out += s
	}
	return out
}

// queue of commands, between semicolons.
func queue(lines string) [][]string {
	var l [][]string
	for _, line := range strings.Split(lines, ";") {
		l = append(l, words(line))
	}
	return l
}

// bytes of replies: a blank stands for a line's end.
func bytes(s string) string {
	if s == "" {
		return ""
	}
	return strings.ReplaceAll(s, " ", "\r\n") + "\r\n"
}

// put: a session that has put these by.
func put(lines string) api.Session { return api.Session{Multi: true, Queue: queue(lines)} }

// mix: a store with some hot and some cold.
func mix() api.Store {
	return api.Store{
		Slots: []api.Slot{
			{Key: "h", Item: api.Item{Kind: api.ItemHash, Pairs: []api.Pair{{Field: "f", Value: "1"}, {Field: "g", Value: "2"}}}},
			{Key: "l", Item: api.Item{Kind: api.ItemList, List: []string{"b", "a", "b"}}, Until: 9},
			{Key: "s", Cold: true, Place: api.Place{Record: 1}, Until: 7},
			{Key: "t", Cold: true, Place: api.Place{Segment: 1}},
			{Key: "z", Item: api.Item{Kind: api.ItemScore, Scores: []api.Score{{N: 1, Member: "b"}, {N: 2, Member: "a"}}}},
		},
		Segments: [][]string{{"\x01w", "\x03\x02\x01a\x01b"}, {"\x0141"}},
	}
}

// with: that store, but for what is done to it.
func with(do func(s *api.Store)) api.Store {
	s := mix()
	do(&s)
	return s
}

// tell a store and a session, all that they have; an empty list is as none.
func tell(st api.Store, s api.Session) string {
	out := ""
	for _, x := range st.Slots {
		i := x.Item
		out += fmt.Sprintf("%q %v %v %d: %d %q %q %q %v; ", x.Key, x.Cold, x.Place, x.Until, i.Kind, i.Text, i.List, i.Pairs, i.Scores)
	}
	return out + fmt.Sprintf("%q %q %v %q %v", st.Segments, s.Rest, s.Multi, s.Queue, s.Broken)
}

func TestM1Check(t *testing.T) {
	ten := "ping;get a;set a 1;del a b;keys *;expire a -5;zadd z 1 a 2 b;PING;hset h f v;sunion a b c"
	for _, c := range []struct {
		name string
		s    api.Session
		want api.Errno
	}{
		{"none", api.Session{}, api.OK},
		{"empty lists", api.Session{Queue: [][]string{}}, api.OK},
		{"Multi", api.Session{Multi: true}, api.OK},
		{"Multi and Broken", api.Session{Multi: true, Broken: true}, api.OK},
		{"some put by", put("ping;get a"), api.OK},
		{"some put by, and Broken", api.Session{Multi: true, Queue: queue("ping"), Broken: true}, api.OK},
		{"as many put by as may be", put(ten), api.OK},
		{"one more", put(ten + ";ping"), api.ErrMany},
		{"one byte waits", api.Session{Rest: "*"}, api.OK},
		{"bytes wait that are no command", api.Session{Rest: "what"}, api.OK},
		{"as many bytes wait as may", api.Session{Rest: long(1200)}, api.OK},
		{"one more byte", api.Session{Rest: long(1201)}, api.ErrMany},
		{"as many of both", api.Session{Rest: long(1200), Multi: true, Queue: queue(ten)}, api.OK},
		{"not Multi, and some put by", api.Session{Queue: queue("ping")}, api.ErrState},
		{"not Multi, and an empty one put by", api.Session{Queue: [][]string{nil}}, api.ErrState},
		{"not Multi, and Broken", api.Session{Broken: true}, api.ErrState},
		{"not Multi, and both", api.Session{Queue: queue("ping"), Broken: true}, api.ErrState},
		{"no words", api.Session{Multi: true, Queue: [][]string{{}}}, api.ErrForm},
		{"as many words as may be", put("del 1 2 3 4 5 6 7 8 9 10 11"), api.OK},
		{"too many words", put("del 1 2 3 4 5 6 7 8 9 10 11 12"), api.ErrMany},
		{"as long a word as may be", put("get " + long(60)), api.OK},
		{"a word too long", put("get " + long(61)), api.ErrMany},
		{"no such command", put("what"), api.ErrNone},
		{"multi put by", put("multi"), api.ErrNone},
		{"exec put by", put("exec"), api.ErrNone},
		{"discard put by", put("ping;DISCARD"), api.ErrNone},
		{"not as many words as must be", put("ping;get"), api.ErrForm},
		{"no number", put("incrby a x"), api.ErrRange},
		{"Broken, and no such command", api.Session{Multi: true, Queue: queue("what"), Broken: true}, api.ErrNone},
		{"the first one that is wrong", put("ping;incrby a x;what;get"), api.ErrRange},
		{"the first one that is wrong, otherwise", put("get;what;incrby a x"), api.ErrForm},
		{"too many bytes ahead of not Multi", api.Session{Rest: long(1201), Broken: true}, api.ErrMany},
		{"too many commands ahead of not Multi", api.Session{Queue: make([][]string, 11)}, api.ErrMany},
		{"too many bytes ahead of no such command", api.Session{Rest: long(1201), Multi: true, Queue: queue("what")}, api.ErrMany},
		{"too many commands ahead of no words", api.Session{Multi: true, Queue: make([][]string, 11)}, api.ErrMany},
		{"not Multi ahead of no such command", api.Session{Queue: queue("what")}, api.ErrState},
	} {
		if e := session.Check(c.s); e != c.want {
			t.Errorf("%s: %d, must be %d", c.name, e, c.want)
		}
		st, s, out, e := session.Step(mix(), c.s, 5, "")
		if e != c.want || e != api.OK && (!isZero(st) || !isZero(s) || out != "") {
			t.Errorf("Step, %s: %s %q %d, must be %d", c.name, tell(st, s), out, e, c.want)
		}
	}
}

func TestM2Errors(t *testing.T) {
	many := api.Store{Segments: make([][]string, 9)}
	short := api.Store{Segments: [][]string{{""}}}
	falls := with(func(s *api.Store) { s.Slots[4].Key = "a" })
	none := with(func(s *api.Store) { s.Slots[2].Place.Record = 2 })
	for _, c := range []struct {
		name string
		st   api.Store
		s    api.Session
		now  int
		want api.Errno
	}{
		{"segments", many, api.Session{}, 5, api.ErrMany},
		{"a record", short, api.Session{}, 5, api.ErrForm},
		{"keys", falls, api.Session{}, 5, api.ErrState},
		{"a place", none, api.Session{}, 5, api.ErrNone},
		{"a session", mix(), api.Session{Broken: true}, 5, api.ErrState},
		{"now below", mix(), api.Session{}, -1, api.ErrRange},
		{"now far below", mix(), api.Session{}, near, api.ErrRange},
		{"now above", mix(), api.Session{}, end + 1, api.ErrRange},
		{"now far above", mix(), api.Session{}, far, api.ErrRange},
		{"now, some put by", mix(), put("ping"), -1, api.ErrRange},
		{"the store ahead of the session", many, api.Session{Broken: true}, 5, api.ErrMany},
		{"the store ahead of now", short, api.Session{}, -1, api.ErrForm},
		{"the session ahead of now", mix(), api.Session{Broken: true}, -1, api.ErrState},
		{"a queue ahead of now", mix(), put("what"), -1, api.ErrNone},
		{"all", none, put("get"), far, api.ErrNone},
	} {
		for _, b := range []string{"", "?", "*1\r\n", script("ping"), script("multi;ping;exec")} {
			if st, s, out, e := session.Step(c.st, c.s, c.now, b); !isZero(st) || !isZero(s) || out != "" || e != c.want {
				t.Errorf("%s, %q: %s %q %d, must be %d", c.name, b, tell(st, s), out, e, c.want)
			}
		}
	}
	for _, now := range []int{0, end} {
		if _, _, out, e := session.Step(mix(), api.Session{}, now, script("ping")); out != bytes("+PONG") || e != api.OK {
			t.Errorf("at %d: %q %d", now, out, e)
		}
	}
}

// step that is taken at 5, of that store, and what must come of it. Where no store is told it stays.
type step struct {
	s     api.Session
	bytes string
	out   string
	then  api.Session
	store func(s *api.Store)
}

func steps(t *testing.T, l []step) {
	t.Helper()
	for _, c := range l {
		if c.store == nil {
			c.store = func(*api.Store) {}
		}
		st, s, out, e := session.Step(mix(), c.s, 5, c.bytes)
		if want := tell(with(c.store), c.then); tell(st, s) != want || e != api.OK {
			t.Errorf("%q of %v: it is\n%s\nand must be\n%s (%d)", c.bytes, c.s, tell(st, s), want, e)
		}
		if out != bytes(c.out) {
			t.Errorf("%q of %v: %q, must be %q", c.bytes, c.s, out, bytes(c.out))
		}
		if e := session.Check(s); e != api.OK {
			t.Errorf("%q of %v: the session is wrong then: %d", c.bytes, c.s, e)
		}
		if e := cold.Check(st); e != api.OK {
			t.Errorf("%q of %v: the store is wrong then: %d", c.bytes, c.s, e)
		}
	}
}

func TestM2CommandsInOrder(t *testing.T) {
	none := api.Session{}
	steps(t, []step{
		{none, "", "", none, nil},
		{none, script("ping"), "+PONG", none, nil},
		{none, script("ping;Ping;PING"), "+PONG +PONG +PONG", none, nil},
		{none, script("get t;get no;get l"), "$2 41 $-1 -7", none, nil},
		{none, script("type t;type l;type s;type h;type z;type no"), "+string +list +set +hash +zset +none", none, nil},
		{none, script("what;get;incrby t x;incrby h 1;keys ["), "-5 -1 -3 -7 -1", none, nil},
		{none, script("smembers s;hgetall h;lrange l 0 1;zrange z 0 -1;lrange no 0 -1"), "*2 $1 a $1 b *4 $1 f $1 1 $1 g $1 2 *2 $1 b $1 a *2 $1 b $1 a *0", none, nil},
		{none, script("getrange t 5 9;ttl s;ttl t;ttl no"), "$0  :2 :-1 :-2", none, nil},
		{none, script("incrby t 1;incrby t 1;get t"), ":42 :43 $2 43", none, func(s *api.Store) {
			s.Slots[3] = api.Slot{Key: "t", Item: api.Item{Kind: api.ItemText, Text: "43"}}
		}},
		{none, script("expire s 9;persist l;lpop l"), ":1 :1 $1 b", none, func(s *api.Store) {
			s.Slots[2].Until, s.Slots[1].Until, s.Slots[1].Item.List = 14, 0, []string{"a", "b"}
		}},
		{none, script("set '' ''"), "+OK", none, func(s *api.Store) {
			s.Slots = slices.Insert(s.Slots, 0, api.Slot{Item: api.Item{Kind: api.ItemText}})
		}},
		{none, script("del h l s t z no"), ":5", none, func(s *api.Store) { s.Slots = nil }},
		{none, "*1\r\n$0\r\n\r\n", "-5", none, nil},
	})
}

func TestM2Now(t *testing.T) {
	for now, want := range map[int]string{0: ":7 $2 41", 6: ":1 $2 41", 7: ":-2 $2 41", end: ":-2 $2 41"} {
		for _, c := range []struct{ lines, want string }{{"ttl s;get t", want}, {"multi;ttl s;get t;exec", "+OK +QUEUED +QUEUED *2 " + want}} {
			if _, _, out, e := session.Step(mix(), api.Session{}, now, script(c.lines)); out != bytes(c.want) || e != api.OK {
				t.Errorf("%s at %d: %q %d", c.lines, now, out, e)
			}
		}
	}
	st, s, _, _ := session.Step(mix(), api.Session{}, 5, script("multi;ttl s;exists s"))
	if _, _, out, _ := session.Step(st, s, 7, script("exec")); out != bytes("*2 :-2 :0") {
		t.Errorf("what is put by is done at another time than it is: %q", out)
	}
}

func TestM2Multi(t *testing.T) {
	none, multi := api.Session{}, api.Session{Multi: true}
	broken := api.Session{Multi: true, Broken: true}
	steps(t, []step{
		{none, script("multi"), "+OK", multi, nil},
		{multi, script("multi"), "-4", multi, nil},
		{none, script("multi;multi;multi"), "+OK -4 -4", multi, nil},
		{none, script("multi;ping;multi;get t"), "+OK +QUEUED -4 +QUEUED", put("ping;get t"), nil},
		{none, script("multi;ping;multi;exec"), "+OK +QUEUED -4 *1 +PONG", none, nil},
		{broken, script("multi"), "-4", broken, nil},
		{none, script("MULTI"), "+OK", multi, nil},
		{none, script("mUlTi;EXec;Multi;dISCARD"), "+OK *0 +OK +OK", none, nil},
		{none, script("multi x"), "-5", none, nil},
		{none, script("multi multi"), "-5", none, nil},
		{none, script("multi ''"), "-5", none, nil},
		{none, script("multis;mult"), "-5 -5", none, nil},
		{multi, script("multi x"), "-5", broken, nil},
		{multi, script("di\u017fcard"), "-5", broken, nil},
	})
}

func TestM2PutBy(t *testing.T) {
	none, multi := api.Session{}, api.Session{Multi: true}
	also := func(s api.Session) api.Session { s.Broken = true; return s }
	steps(t, []step{
		{multi, script("set t 9"), "+QUEUED", put("set t 9"), nil},
		{multi, script("SET t 9;Del h l;keys *"), "+QUEUED +QUEUED +QUEUED", put("SET t 9;Del h l;keys *"), nil},
		{multi, script("lpush t x;incrby h 1"), "+QUEUED +QUEUED", put("lpush t x;incrby h 1"), nil},
		{multi, script("set '' ''"), "+QUEUED", put("set '' ''"), nil},
		{put("ping"), script("get t"), "+QUEUED", put("ping;get t"), nil},
		{multi, script("what"), "-5", also(multi), nil},
		{multi, script("get"), "-1", also(multi), nil},
		{multi, script("incrby t x"), "-3", also(multi), nil},
		{multi, script("zadd z 1 a x b"), "-3", also(multi), nil},
		{put("set t 9"), script("set t;set t 8"), "-1 +QUEUED", also(put("set t 9;set t 8")), nil},
		{also(put("ping")), script("ping;what;ping"), "+QUEUED -5 +QUEUED", also(put("ping;ping;ping")), nil},
		{none, script("what;multi;get t"), "-5 +OK +QUEUED", put("get t"), nil},
	})
}

func TestM2AFullQueue(t *testing.T) {
	nine := "ping" + strings.Repeat(";ping", 8)
	ten := nine + ";get t"
	also := func(s api.Session) api.Session { s.Broken = true; return s }
	pongs := strings.Repeat("+PONG ", 9)
	steps(t, []step{
		{put(nine), script("get t"), "+QUEUED", put(ten), nil},
		{put(nine), script("get t;exec"), "+QUEUED *10 " + pongs + "$2 41", api.Session{}, nil},
		{put(ten), script("exec"), "*10 " + pongs + "$2 41", api.Session{}, nil},
		{put(ten), script("ping"), "-2", also(put(ten)), nil},
		{put(ten), script("ping;ping"), "-2 -2", also(put(ten)), nil},
		{put(ten), script("what"), "-5", also(put(ten)), nil},
		{put(ten), script("get"), "-1", also(put(ten)), nil},
		{put(ten), script("multi"), "-4", put(ten), nil},
		{put(ten), script("set t 1;exec"), "-2 -4", api.Session{}, nil},
		{put(ten), script("set t 1;discard"), "-2 +OK", api.Session{}, nil},
		{api.Session{}, script("multi;" + ten + ";set t 1;exec;get t"), "+OK " + strings.Repeat("+QUEUED ", 10) + "-2 -4 $2 41", api.Session{}, nil},
	})
}

func TestM2Discard(t *testing.T) {
	none, multi := api.Session{}, api.Session{Multi: true}
	steps(t, []step{
		{none, script("discard"), "-4", none, nil},
		{multi, script("discard"), "+OK", none, nil},
		{multi, script("discard;discard"), "+OK -4", none, nil},
		{put("set t 9;del h"), script("discard;get t"), "+OK $2 41", none, nil},
		{api.Session{Multi: true, Queue: queue("set t 9"), Broken: true}, script("DISCARD;exec"), "+OK -4", none, nil},
		{api.Session{Multi: true, Broken: true}, script("discard;multi;get t;exec"), "+OK +OK +QUEUED *1 $2 41", none, nil},
		{put("ping"), script("discard x"), "-5", api.Session{Multi: true, Queue: queue("ping"), Broken: true}, nil},
		{none, script("discard x"), "-5", none, nil},
	})
}

func TestM2Exec(t *testing.T) {
	none, multi := api.Session{}, api.Session{Multi: true}
	text := func(s string) func(*api.Store) {
		return func(st *api.Store) {
			st.Slots[3] = api.Slot{Key: "t", Item: api.Item{Kind: api.ItemText, Text: s}}
		}
	}
	steps(t, []step{
		{none, script("exec"), "-4", none, nil},
		{multi, script("exec"), "*0", none, nil},
		{multi, script("EXEC;exec"), "*0 -4", none, nil},
		{put("set t 9;get t"), script("exec"), "*2 +OK $1 9", none, text("9")},
		{put("incrby t 1;incrby t 1;lpush t x;get t;append t !"), script("exec;get t"), "*5 :42 :43 -7 $2 43 :3 $3 43!", none, text("43!")},
		{put("incrby h 1;keys [;get no"), script("exec"), "*3 -7 -1 $-1", none, nil},
		{api.Session{Multi: true, Queue: queue("set t 9"), Broken: true}, script("exec;get t"), "-4 $2 41", none, nil},
		{api.Session{Multi: true, Broken: true}, script("exec;exec;multi;exec"), "-4 -4 +OK *0", none, nil},
		{none, script("multi;set t 9;what;exec;get t"), "+OK +QUEUED -5 -4 $2 41", none, nil},
		{none, script("multi;what;set t 9;exec;get t"), "+OK -5 +QUEUED -4 $2 41", none, nil},
		{none, script("multi;set t 9;multi;exec"), "+OK +QUEUED -4 *1 +OK", none, text("9")},
		{put("ping"), script("exec x"), "-5", api.Session{Multi: true, Queue: queue("ping"), Broken: true}, nil},
		{none, script("exec x;exec exec"), "-5 -5", none, nil},
	})
}

func TestM2ListsWithinExec(t *testing.T) {
	none := api.Session{}
	steps(t, []step{
		{put("smembers s;hgetall h;lrange l 0 1;zrange z 0 0"), script("exec"), "*4 :2 :4 :2 :1", none, nil},
		{put("keys *;keys no;lrange l 9 9;smembers no"), script("exec"), "*4 :5 :0 :0 :0", none, nil},
		{put("sinter s s;sunion s no;sdiff s s;zrangebyscore z 2 9"), script("exec"), "*4 :2 :2 :0 :1", none, nil},
		{put("lrange l 0 -1"), script("exec;lrange l 0 -1"), "*1 :3 *3 $1 b $1 a $1 b", none, nil},
	})
}

// TestM2GreatAnswers: the longest list that a command can answer, and numbers and bytes at their ends.
func TestM2GreatAnswers(t *testing.T) {
	st := api.Store{}
	keys, want := "", "*264 "
	for i := range 11 {
		x := api.Item{Kind: api.ItemSet}
		for j := range 24 {
			member := fmt.Sprintf("%02d.%02d", i, j) + long(55)
			x.List = append(x.List, member)
			want += "$60 " + member + " "
		}
		key := fmt.Sprint("k", 10+i)
		st.Slots = append(st.Slots, api.Slot{Key: key, Item: x})
		keys += " " + key
	}
	for _, c := range []struct{ lines, want string }{
		{"sunion" + keys, strings.TrimSpace(want)},
		{"multi;sunion" + keys + ";exec", "+OK +QUEUED *1 :264"},
		{"incrby n 999999999;get n;incrby n 1", ":999999999 $9 999999999 -3"},
		{"incrby n -999999999;get n;incrby n -1", ":-999999999 $10 -999999999 -3"},
		{"set n " + long(60) + ";get n;append n x", "+OK $60 " + long(60) + " -2"},
		{"set n 1;expire n 999995;ttl n;expire n 999996", "+OK :1 :999995 -3"},
	} {
		if _, _, out, e := session.Step(st, api.Session{}, 5, script(c.lines)); out != bytes(c.want) || e != api.OK {
			t.Errorf("%s: %q %d", c.lines, out, e)
		}
	}
}

func TestM2WhatWaits(t *testing.T) {
	rest := func(s string) api.Session { return api.Session{Rest: s} }
	// The longest bytes of one command that can wait: all but the last one.
	whole := script("del" + strings.Repeat(" "+long(60), 11))
	most := whole[:len(whole)-1]
	// As many bytes as may wait: whole commands, which are done as soon as a byte comes, or none.
	many := strings.Repeat(script("ping"), 85) + "*1\r\n$2\r\n.."
	if len(many) != api.MaxWhole {
		t.Fatalf("%d bytes", len(many))
	}
	steps(t, []step{
		{rest(""), "*", "", rest("*"), nil},
		{rest("*1\r\n$4\r\npi"), "", "", rest("*1\r\n$4\r\npi"), nil},
		{rest("*1\r\n$4\r\npi"), "ng\r", "", rest("*1\r\n$4\r\nping\r"), nil},
		{rest("*1\r\n$4\r\npi"), "ng\r\n", "+PONG", rest(""), nil},
		{rest("*1\r\n$4\r\npi"), "ng\r\n*", "+PONG", rest("*"), nil},
		{rest(script("ping")), "", "+PONG", rest(""), nil},
		{rest(""), script("ping;ping") + "*2\r\n$3", "+PONG +PONG", rest("*2\r\n$3"), nil},
		{rest(""), most, "", rest(most), nil},
		{rest(most), "\n", ":0", rest(""), nil},
		{rest(many), "", strings.TrimSpace(strings.Repeat("+PONG ", 85)), rest("*1\r\n$2\r\n.."), nil},
		{rest(many), "\r\n", strings.Repeat("+PONG ", 85) + "-5", rest(""), nil},
		{rest(strings.Repeat("*", 1200)), "", "-1", rest(""), nil},
		{rest(""), script("multi") + "*1\r\n", "+OK", api.Session{Multi: true, Rest: "*1\r\n"}, nil},
		{api.Session{Multi: true, Rest: "*1\r\n"}, "$4\r\nexec\r\n*", "*0", rest("*"), nil},
		{api.Session{Multi: true, Rest: "*1\r\n"}, "$7\r\ndiscard\r\n*1", "+OK", rest("*1"), nil},
		{api.Session{Multi: true, Broken: true, Rest: "*1\r\n"}, "$4\r\nexec\r\n*12", "-4", rest("*12"), nil},
		{rest("*1\r\n"), "$4\r\nexec\r\n*", "-4", rest("*"), nil},
	})
}

func TestM2TheStreamHasAnError(t *testing.T) {
	none := api.Session{}
	bad := map[string]string{"?": "-1", "\r\n": "-1", "*0\r\n": "-1", "*01": "-1", "*13": "-2", "*1\r\n$61": "-2", "*1\r\n$4\r\nping?": "-1", "*1\r\n$-1": "-1", "*2\r\n$4\r\nping\r\n*": "-1"}
	for b, e := range bad {
		steps(t, []step{
			{none, b, e, none, nil},
			{none, script("ping;get t") + b, "+PONG $2 41 " + e, none, nil},
			{none, script("ping") + b + script("ping;set t 9"), "+PONG " + e, none, nil},
			{none, script("del h l s t z") + b, ":5 " + e, none, func(s *api.Store) { s.Slots = nil }},
			{none, script("multi") + b, "+OK " + e, none, nil},
			{none, script("multi;set t 9;del h") + b, "+OK +QUEUED +QUEUED " + e, none, nil},
			{none, script("multi;set t 9;del h") + b + script("exec"), "+OK +QUEUED +QUEUED " + e, none, nil},
			{none, script("multi;what;set t 9") + b, "+OK -5 +QUEUED " + e, none, nil},
			{none, script("multi;get t;exec") + b, "+OK +QUEUED *1 $2 41 " + e, none, nil},
			{put("set t 9"), b, e, none, nil},
			{put("set t 9"), script("get t") + b, "+QUEUED " + e, none, nil},
			{api.Session{Multi: true, Queue: queue("set t 9"), Broken: true}, b, e, none, nil},
			{api.Session{Multi: true, Queue: queue("set t 9"), Rest: b[:1]}, b[1:] + "?", e, none, nil},
		})
		_, s, _, _ := session.Step(mix(), put("set t 9"), 5, b)
		steps(t, []step{{s, script("get t;exec;ping"), "$2 41 -4 +PONG", none, nil}})
	}
}

// TestM2WhatIsColdStaysSo: what is only read, or put as it was, lies where it lay.
func TestM2WhatIsColdStaysSo(t *testing.T) {
	none := api.Session{}
	steps(t, []step{
		{none, script("get t;smembers s;keys *;exists s t"), "$2 41 *2 $1 a $1 b *5 $1 h $1 l $1 s $1 t $1 z :2", none, nil},
		{put("get t;smembers s"), script("exec"), "*2 $2 41 :2", none, nil},
		{put("sadd s a;persist s"), script("exec"), "*2 :0 :1", none, func(s *api.Store) { s.Slots[2].Until = 0 }},
	})
}
