package engine_test

import (
	"fmt"
	"math"
	"math/rand"
	"reflect"
	"slices"
	"strings"
	"testing"

	"springhouse/api"
	"springhouse/engine"
	"springhouse/reply"
	"springhouse/space"
)

const end, far, near = api.MaxTime, math.MaxInt, math.MinInt

func long(n int) string { return strings.Repeat("L", n) }

// split a line into words: ” is an empty one.
func split(line string) []string {
	l := strings.Fields(line)
	for i := range l {
		if l[i] == "''" {
			l[i] = ""
		}
	}
	return l
}

// told: a reply in short: a word bare, -error, :number, $bytes, nil, [bytes ..].
func told(r api.Reply) string {
	switch r.Kind {
	case api.ReplyText:
		return r.Text
	case api.ReplyError:
		return fmt.Sprint("-", r.N)
	case api.ReplyNumber:
		return fmt.Sprint(":", r.N)
	case api.ReplyBytes:
		return "$" + r.Text
	case api.ReplyNone:
		return "nil"
	}
	var l []string
	for _, x := range r.List {
		if x.Kind != api.ReplyBytes {
			return fmt.Sprint("a list of other things: ", r)
		}
		l = append(l, x.Text)
	}
	return "[" + strings.Join(l, " ") + "]"
}

// lies: a space in short: key=item@until; a text bare, a list [..], a set {..}, a hash (..), scores <..>.
func lies(s api.Space) string {
	var l []string
	for _, e := range s {
		one := e.Key + "="
		switch e.Item.Kind {
		case api.ItemText:
			one += e.Item.Text
		case api.ItemList:
			one += fmt.Sprint(e.Item.List)
		case api.ItemSet:
			one += "{" + strings.Join(e.Item.List, " ") + "}"
		case api.ItemHash:
			one += strings.NewReplacer("[{", "(", "}]", ")", "} {", " ").Replace(fmt.Sprint(e.Item.Pairs))
		case api.ItemScore:
			one += strings.NewReplacer("[{", "<", "}]", ">", "} {", " ").Replace(fmt.Sprint(e.Item.Scores))
		}
		if e.Until != 0 {
			one += fmt.Sprint("@", e.Until)
		}
		l = append(l, one)
	}
	return strings.Join(l, "; ")
}

// some: a space with an item of each kind, for ever or until a time.
func some(until int) api.Space {
	return api.Space{
		{Key: "h", Item: api.Item{Kind: api.ItemHash, Pairs: []api.Pair{{Field: "f", Value: "1"}, {Field: "g", Value: "2"}}}, Until: until},
		{Key: "l", Item: api.Item{Kind: api.ItemList, List: []string{"a", "b", "a"}}, Until: until},
		{Key: "s", Item: api.Item{Kind: api.ItemSet, List: []string{"a", "b"}}, Until: until},
		{Key: "t", Item: api.Item{Kind: api.ItemText, Text: "41"}, Until: until},
		{Key: "z", Item: api.Item{Kind: api.ItemScore, Scores: []api.Score{{N: -1, Member: "b"}, {N: 2, Member: "a"}, {N: 2, Member: "c"}}}, Until: until},
	}
}

// full: a space with texts by n keys, n100 and on.
func full(n, until int) api.Space {
	var s api.Space
	for i := range n {
		s = append(s, api.Entry{Key: fmt.Sprint("n", 100+i), Item: api.Item{Kind: api.ItemText, Text: "x"}, Until: until})
	}
	return s
}

// step of a script: a time, a command, its reply, and the space then (same: as ahead).
type step struct {
	now              int
	line, want, then string
}

// play a script, from a space on.
func play(t *testing.T, s api.Space, script []step) {
	t.Helper()
	for _, c := range script {
		then := c.then
		if then == "same" {
			then = lies(s)
		}
		y, r, e := engine.Do(s, c.now, split(c.line))
		if told(r) != c.want || lies(y) != then || e != api.OK {
			t.Errorf("%q at %d: %s, %s, %d; must be %s, %s", c.line, c.now, told(r), lies(y), e, c.want, then)
		}
		s = y
	}
}

func TestK2TheExampleOfTheDocument(t *testing.T) {
	s := api.Space{{Key: "t", Item: api.Item{Kind: api.ItemText, Text: "7"}, Until: 10}}
	play(t, s, []step{
		{5, "incrby t 3", ":10", "t=10@10"},
		{5, "ttl t", ":5", "same"},
		{5, "zadd z 2 a 1 b", ":2", "t=10@10; z=<1 b 2 a>"},
		{5, "zrange z 0 -1", "[b a]", "same"},
	})
}

func TestK2Texts(t *testing.T) {
	play(t, nil, []step{
		{1, "ping", "PONG", ""},
		{1, "get t", "nil", ""},
		{1, "strlen t", ":0", ""},
		{1, "getrange t 0 -1", "$", ""},
		{1, "set t abc", "OK", "t=abc"},
		{1, "get t", "$abc", "same"},
		{1, "GET t", "$abc", "same"},
		{1, "get T", "nil", "same"},
		{1, "append t de", ":5", "t=abcde"},
		{1, "append u x", ":1", "t=abcde; u=x"},
		{1, "append t ''", ":5", "same"},
		{1, "strlen t", ":5", "same"},
		{1, "getrange t 1 2", "$bc", "same"},
		{1, "getrange t -2 -1", "$de", "same"},
		{1, "getrange t -999999999 999999999", "$abcde", "same"},
		{1, "getrange t 3 2", "$", "same"},
		{1, "incrby t 1", "-1", "same"},
		{1, "set t 7", "OK", "t=7; u=x"},
		{1, "incrby t -9", ":-2", "t=-2; u=x"},
		{1, "incrby n 999999999", ":999999999", "n=999999999; t=-2; u=x"},
		{1, "incrby n 1", "-3", "same"},
		{1, "incrby n -999999999", ":0", "n=0; t=-2; u=x"},
		{1, "incrby n -999999999", ":-999999999", "n=-999999999; t=-2; u=x"},
		{1, "incrby n -1", "-3", "same"},
		{1, "set t ''", "OK", "n=-999999999; t=; u=x"},
		{1, "get t", "$", "same"},
		{1, "incrby t 1", "-1", "same"},
		{1, "set t " + long(60), "OK", "n=-999999999; t=" + long(60) + "; u=x"},
		{1, "append t x", "-2", "same"},
		{1, "append t ''", ":60", "same"},
		{1, "del t n u", ":3", ""},
		{1, "append '' ''", ":0", "="},
	})
}

func TestK2AnEmptyTextIsThere(t *testing.T) {
	play(t, nil, []step{
		{0, "append '' ''", ":0", "="},
		{0, "exists ''", ":1", "same"},
		{0, "type ''", "string", "same"},
		{0, "get ''", "$", "same"},
		{0, "del ''", ":1", ""},
	})
}

func TestK2Lists(t *testing.T) {
	play(t, nil, []step{
		{1, "lpop l", "nil", ""},
		{1, "rpop l", "nil", ""},
		{1, "lrange l 0 -1", "[]", ""},
		{1, "ltrim l 0 -1", "OK", ""},
		{1, "lrem l a", ":0", ""},
		{1, "lpush l a b", ":2", "l=[b a]"},
		{1, "rpush l c a", ":4", "l=[b a c a]"},
		{1, "lrange l 0 -1", "[b a c a]", "same"},
		{1, "lrange l 1 2", "[a c]", "same"},
		{1, "lrange l -1 9", "[a]", "same"},
		{1, "lrange l 2 1", "[]", "same"},
		{1, "lrem l a", ":2", "l=[b c]"},
		{1, "lrem l a", ":0", "same"},
		{1, "rpush l d e", ":4", "l=[b c d e]"},
		{1, "lpop l", "$b", "l=[c d e]"},
		{1, "rpop l", "$e", "l=[c d]"},
		{1, "ltrim l 1 -1", "OK", "l=[d]"},
		{1, "ltrim l 1 1", "OK", ""},
		{1, "rpush l x", ":1", "l=[x]"},
		{1, "rpop l", "$x", ""},
		{1, "rpush l x x", ":2", "l=[x x]"},
		{1, "lrem l x", ":2", ""},
		{1, "rpush l 0 1 2 3 4 5 6 7 8 9", ":10", "l=[0 1 2 3 4 5 6 7 8 9]"},
		{1, "lpush l 0 1 2 3 4 5 6 7 8 9", ":20", "l=[9 8 7 6 5 4 3 2 1 0 0 1 2 3 4 5 6 7 8 9]"},
		{1, "rpush l 0 1 2 3 4", "-2", "same"},
		{1, "rpush l a b c d", ":24", "l=[9 8 7 6 5 4 3 2 1 0 0 1 2 3 4 5 6 7 8 9 a b c d]"},
		{1, "lpush l x", "-2", "same"},
	})
}

func TestK2Sets(t *testing.T) {
	play(t, nil, []step{
		{1, "smembers s", "[]", ""},
		{1, "sismember s a", ":0", ""},
		{1, "srem s a", ":0", ""},
		{1, "sinter s", "[]", ""},
		{1, "sadd s b a b", ":2", "s={a b}"},
		{1, "sadd s a c", ":1", "s={a b c}"},
		{1, "sadd s a c", ":0", "same"},
		{1, "sadd u c d", ":2", "s={a b c}; u={c d}"},
		{1, "smembers s", "[a b c]", "same"},
		{1, "sismember s b", ":1", "same"},
		{1, "sismember s B", ":0", "same"},
		{1, "sinter s u", "[c]", "same"},
		{1, "sinter s u no", "[]", "same"},
		{1, "sinter s s s", "[a b c]", "same"},
		{1, "sunion s u", "[a b c d]", "same"},
		{1, "sunion no u no", "[c d]", "same"},
		{1, "sdiff s u", "[a b]", "same"},
		{1, "sdiff u s", "[d]", "same"},
		{1, "sdiff no u", "[]", "same"},
		{1, "sdiff s", "[a b c]", "same"},
		{1, "srem s a z a", ":1", "s={b c}; u={c d}"},
		{1, "srem s b c", ":2", "u={c d}"},
	})
}

func TestK2Hashes(t *testing.T) {
	play(t, nil, []step{
		{1, "hget h f", "nil", ""},
		{1, "hgetall h", "[]", ""},
		{1, "hdel h f", ":0", ""},
		{1, "hset h g 2 f 1", ":2", "h=(f 1 g 2)"},
		{1, "hset h f 3 f 4", ":0", "h=(f 4 g 2)"},
		{1, "hset h e 0 f 5", ":1", "h=(e 0 f 5 g 2)"},
		{1, "hget h f", "$5", "same"},
		{1, "hget h F", "nil", "same"},
		{1, "hgetall h", "[e 0 f 5 g 2]", "same"},
		{1, "hdel h e no e", ":1", "h=(f 5 g 2)"},
		{1, "hdel h f g", ":2", ""},
		{1, "hset h '' ''", ":1", "h=( )"},
		{1, "hget h ''", "$", "same"},
	})
}

func TestK2Scores(t *testing.T) {
	play(t, nil, []step{
		{1, "zscore z a", "nil", ""},
		{1, "zrank z a", "nil", ""},
		{1, "zrange z 0 -1", "[]", ""},
		{1, "zrangebyscore z -9 9", "[]", ""},
		{1, "zrem z a", ":0", ""},
		{1, "zadd z 2 a 1 b", ":2", "z=<1 b 2 a>"},
		{1, "zadd z 0 a 1 c", ":1", "z=<0 a 1 b 1 c>"},
		{1, "zscore z b", ":1", "same"},
		{1, "zscore z a", ":0", "same"},
		{1, "zscore z no", "nil", "same"},
		{1, "zrank z a", ":0", "same"},
		{1, "zrank z c", ":2", "same"},
		{1, "zrank z no", "nil", "same"},
		{1, "zrange z 1 -1", "[b c]", "same"},
		{1, "zrange z -9 0", "[a]", "same"},
		{1, "zrangebyscore z 1 1", "[b c]", "same"},
		{1, "zrangebyscore z -999999999 999999999", "[a b c]", "same"},
		{1, "zrangebyscore z -1 0", "[a]", "same"},
		{1, "zrangebyscore z 1 0", "[]", "same"},
		{1, "zadd z 999999999 b -999999999 c", ":0", "z=<-999999999 c 0 a 999999999 b>"},
		{1, "zrem z c no c", ":1", "z=<0 a 999999999 b>"},
		{1, "zrem z a b", ":2", ""},
	})
}

func TestK2Keys(t *testing.T) {
	s := append(some(0), api.Entry{Key: "~", Item: some(0)[3].Item, Until: 10})
	play(t, s, []step{
		{9, "type h", "hash", "same"},
		{9, "type l", "list", "same"},
		{9, "type s", "set", "same"},
		{9, "type t", "string", "same"},
		{9, "type z", "zset", "same"},
		{9, "type no", "none", "same"},
		{9, "keys *", "[h l s t z ~]", "same"},
		{10, "keys *", "[h l s t z]", "same"},
		{9, "keys [^l-t]", "[h z ~]", "same"},
		{9, "keys t", "[t]", "same"},
		{9, "keys no", "[]", "same"},
		{9, "keys [", "-1", "same"},
		{9, `keys \`, "-1", "same"},
		{9, "keys " + strings.Repeat("*", 60), "[h l s t z ~]", "same"},
		{9, "exists h", ":1", "same"},
		{9, "exists h h ~ no h", ":4", "same"},
		{10, "exists ~ ~", ":0", "same"},
		{9, "exists no", ":0", "same"},
		{9, "del no", ":0", "same"},
		{9, "del h no l h", ":2", lies(s[2:])},
		{9, "del s t z ~ no", ":4", ""},
		{9, "del s", ":0", ""},
		{9, "exists s", ":0", ""},
		{9, "keys *", "[]", ""},
	})
}

// TestK2Gone: what is gone is as if it were not there, from just its time on.
func TestK2Gone(t *testing.T) {
	for line, want := range map[string]string{
		"get t": "$41 nil", "strlen t": ":2 :0", "getrange t 0 -1": "$41 $", "exists t": ":1 :0", "type t": "string none", "ttl t": ":1 :-2",
		"persist t": ":1 :0", "expire t 1": ":1 :0", "expire t 0": ":1 :0", "del t": ":1 :0", "append t x": ":3 :1", "incrby t 1": ":42 :1",
		"lpop l": "$a nil", "rpop l": "$a nil", "rpush l x": ":4 :1", "lrem l a": ":2 :0", "type l": "list none", "lpush t x": "-7 :1",
		"sadd s a": ":0 :1", "srem s a": ":1 :0", "sismember s a": ":1 :0", "sadd t a": "-7 :1",
		"hset h f 3": ":0 :1", "hget h f": "$1 nil", "hdel h f": ":1 :0", "hset t f 3": "-7 :1", "get h": "-7 nil",
		"zadd z 1 a": ":0 :1", "zrem z a": ":1 :0", "zscore z a": ":2 nil", "zrank z a": ":1 nil", "zadd t 1 a": "-7 :1",
	} {
		for _, until := range []int{1, 10, end} {
			_, before, _ := engine.Do(some(until), until-1, split(line))
			_, then, _ := engine.Do(some(until), until, split(line))
			if got := told(before) + " " + told(then); got != want {
				t.Errorf("%q of %d: %s, must be %s", line, until, got, want)
			}
		}
	}
	for line, want := range map[string]string{"smembers s": "[a b] []", "sinter s": "[a b] []", "lrange l 0 -1": "[a b a] []", "hgetall h": "[f 1 g 2] []", "zrange z 0 0": "[b] []", "zrangebyscore z 0 9": "[a c] []", "keys *": "[h l s t z] []"} {
		_, before, _ := engine.Do(some(10), 9, split(line))
		_, then, _ := engine.Do(some(10), 10, split(line))
		if got := told(before) + " " + told(then); got != want {
			t.Errorf("%q: %s, must be %s", line, got, want)
		}
	}
}

// changing: commands that change the items of some, and what the keys are then.
func changing() map[string]string {
	return map[string]string{
		"append t x": "t=41x", "incrby t 1": "t=42",
		"lpush l x": "l=[x a b a]", "rpush l x": "l=[a b a x]", "lpop l": "l=[b a]", "rpop l": "l=[a b]", "ltrim l 0 0": "l=[a]", "lrem l a": "l=[b]",
		"sadd s c": "s={a b c}", "srem s a": "s={b}",
		"hset h e 0": "h=(e 0 f 1 g 2)", "hset h f 0": "h=(f 0 g 2)", "hdel h f": "h=(g 2)",
		"zadd z 9 b": "z=<2 a 2 c 9 b>", "zrem z b": "z=<2 a 2 c>",
	}
}

func entryOf(s api.Space, key string) string {
	for _, e := range s {
		if e.Key == key {
			return lies(api.Space{e})
		}
	}
	return ""
}

func TestK2WhatChangesAnItemKeepsUntil(t *testing.T) {
	for line, want := range changing() {
		for _, until := range []int{0, 10, end} {
			want := want
			if until != 0 {
				want += fmt.Sprint("@", until)
			}
			key := split(line)[1]
			y, _, e := engine.Do(some(until), 9, split(line))
			if got := entryOf(y, key); got != want || e != api.OK {
				t.Errorf("%q: %s, must be %s", line, got, want)
			}
			for _, other := range some(until) {
				if other.Key != key && entryOf(y, other.Key) != entryOf(some(until), other.Key) {
					t.Errorf("%q: %s is other", line, other.Key)
				}
			}
		}
	}
}

// TestK2WhatComesAnewIsForEver: in the place of what is gone, too.
func TestK2WhatComesAnewIsForEver(t *testing.T) {
	for line, want := range map[string]string{"append t x": "t=x", "incrby t 1": "t=1", "lpush l x y": "l=[y x]", "rpush l x y": "l=[x y]", "sadd s c": "s={c}", "hset h e 0": "h=(e 0)", "zadd z 9 b": "z=<9 b>", "set t 1": "t=1", "set h 1": "h=1"} {
		for _, s := range []api.Space{nil, some(9), some(1)} {
			y, _, e := engine.Do(s, 9, split(line))
			if got := entryOf(y, split(line)[1]); got != want || e != api.OK {
				t.Errorf("%q: %s, must be %s", line, got, want)
			}
		}
	}
}

func TestK2SetIsForEver(t *testing.T) {
	for _, key := range strings.Fields("h l s t z") {
		for _, until := range []int{0, 9, 10, end} {
			y, r, e := engine.Do(some(until), 9, []string{"set", key, "v"})
			if got := entryOf(y, key); got != key+"=v" || told(r) != "OK" || e != api.OK {
				t.Errorf("%s until %d: %s", key, until, got)
			}
		}
	}
}

func TestK2Expire(t *testing.T) {
	for _, c := range []struct {
		now, until      int
		n, reply, entry string
	}{
		{5, 0, "1", ":1", "t=41@6"},
		{5, 0, "10", ":1", "t=41@15"},
		{5, 10, "1", ":1", "t=41@6"},
		{5, 6, "100", ":1", "t=41@105"},
		{5, 5, "100", ":0", "t=41@5"},
		{5, 0, "0", ":1", ""},
		{5, 9, "-1", ":1", ""},
		{5, 9, "-999999999", ":1", ""},
		{0, 9, "0", ":1", ""},
		{5, 5, "0", ":0", "t=41@5"},
		{5, 0, "999995", ":1", "t=41@1000000"},
		{5, 0, "999996", "-3", "t=41"},
		{5, 9, "999999999", "-3", "t=41@9"},
		{5, 5, "999999999", ":0", "t=41@5"},
		{0, 0, "1000000", ":1", "t=41@1000000"},
		{0, 0, "1000001", "-3", "t=41"},
		{end, 0, "1", "-3", "t=41"},
		{end, 0, "0", ":1", ""},
		{end - 1, 0, "1", ":1", "t=41@1000000"},
	} {
		y, r, e := engine.Do(some(c.until), c.now, []string{"expire", "t", c.n})
		if told(r) != c.reply || entryOf(y, "t") != c.entry || e != api.OK {
			t.Errorf("%v: %s %s %d", c, told(r), entryOf(y, "t"), e)
		}
		for _, n := range []string{"-1", "0", "1", "999999999"} {
			if y, r, e := engine.Do(some(c.until), c.now, []string{"expire", "no", n}); told(r) != ":0" || lies(y) != lies(some(c.until)) || e != api.OK {
				t.Errorf("not there, at %d for %s: %s %s %d", c.now, n, told(r), lies(y), e)
			}
		}
	}
}

func TestK2PersistAndTtl(t *testing.T) {
	for _, key := range strings.Fields("h l s t z") {
		for _, c := range []struct {
			now, until   int
			ttl, persist string
		}{
			{0, 0, ":-1", ":0"}, {end, 0, ":-1", ":0"}, {0, 1, ":1", ":1"}, {0, end, ":1000000", ":1"}, {9, 10, ":1", ":1"}, {10, 10, ":-2", ":0"}, {11, 10, ":-2", ":0"}, {end, end, ":-2", ":0"},
		} {
			s := some(c.until)
			y, r, _ := engine.Do(s, c.now, []string{"ttl", key})
			if told(r) != c.ttl || lies(y) != lies(s) {
				t.Errorf("ttl of %d at %d: %s %s", c.until, c.now, told(r), lies(y))
			}
			want := entryOf(s, key)
			if c.persist == ":1" {
				want = entryOf(some(0), key)
			}
			y, r, _ = engine.Do(s, c.now, []string{"persist", key})
			if told(r) != c.persist || entryOf(y, key) != want {
				t.Errorf("persist of %d at %d: %s %s", c.until, c.now, told(r), lies(y))
			}
		}
	}
	play(t, some(0), []step{{3, "ttl no", ":-2", "same"}, {3, "persist no", ":0", "same"}})
}

// TestK2ItemsOfAnotherKind: ErrKind, and the space stays.
func TestK2ItemsOfAnotherKind(t *testing.T) {
	own := map[string]string{
		"get k": "t", "append k v": "t", "strlen k": "t", "incrby k 1": "t", "getrange k 0 1": "t",
		"lpush k v": "l", "rpush k v": "l", "lpop k": "l", "rpop k": "l", "lrange k 0 1": "l", "ltrim k 0 1": "l", "lrem k v": "l",
		"sadd k v": "s", "srem k v": "s", "sismember k v": "s", "smembers k": "s", "sinter k": "s", "sunion k": "s", "sdiff k": "s", "sinter no k": "s", "sunion s k": "s", "sdiff s no k": "s",
		"hset k f v": "h", "hget k f": "h", "hdel k f": "h", "hgetall k": "h",
		"zadd k 1 m": "z", "zrem k m": "z", "zscore k m": "z", "zrank k m": "z", "zrange k 0 1": "z", "zrangebyscore k 0 1": "z",
	}
	for line, kind := range own {
		for _, key := range strings.Fields("h l s t z") {
			l := split(line)
			l[slices.Index(l, "k")] = key
			y, r, e := engine.Do(some(10), 9, l)
			if isKind := told(r) == "-7"; isKind != (key != kind) || e != api.OK {
				t.Errorf("%q: %s", l, told(r))
			}
			if key != kind && lies(y) != lies(some(10)) {
				t.Errorf("%q: %s", l, lies(y))
			}
		}
	}
	for _, line := range []string{"set k v", "del k", "exists k", "type k", "keys k", "expire k 1", "ttl k", "persist k"} {
		for _, key := range strings.Fields("h l s t z") {
			if _, r, _ := engine.Do(some(10), 9, split(strings.Replace(line, " k", " "+key, 1))); r.Kind == api.ReplyError {
				t.Errorf("%q of %s: %s", line, key, told(r))
			}
		}
	}
}

// TestK2WhatIsNotKnown: the reply tells what Known says, and the space stays.
func TestK2WhatIsNotKnown(t *testing.T) {
	for _, l := range [][]string{nil, {}, {""}, {"what"}, {"get"}, {"ping", "x"}, {"incrby", "t", "x"}, {"incrby", "t", "1000000000"}, {"zadd", "z", "x", "a"}, {"hset", "h", "f"}, {"expire", "t", ""}, {"del"}, {"set", "t", long(61)}, {long(61)}, make([]string, 13)} {
		want := engine.Known(l)
		for _, s := range []api.Space{nil, some(0), some(5), full(16, 5)} {
			y, r, e := engine.Do(s, 5, l)
			if want == api.OK || told(r) != fmt.Sprint("-", int(want)) || lies(y) != lies(s) || e != api.OK {
				t.Errorf("%q: %s %s %d, must be %d", l, told(r), lies(y), e, want)
			}
		}
	}
}

// TestK2FullSpaces: no key comes anew where there is no room; what is gone makes room.
func TestK2FullSpaces(t *testing.T) {
	for _, line := range []string{"set k v", "append k v", "incrby k 1", "lpush k v", "rpush k v", "sadd k v", "hset k f v", "zadd k 1 m"} {
		s := full(16, 0)
		if y, r, e := engine.Do(s, 5, split(line)); told(r) != "-2" || lies(y) != lies(s) || e != api.OK {
			t.Errorf("%q: %s %s %d", line, told(r), lies(y), e)
		}
		s[3].Until = 6
		if y, r, e := engine.Do(s, 5, split(line)); told(r) != "-2" || lies(y) != lies(s) || e != api.OK {
			t.Errorf("%q, one goes: %s %s %d", line, told(r), lies(y), e)
		}
		y, r, e := engine.Do(s, 6, split(line))
		if r.Kind == api.ReplyError || entryOf(y, "k") == "" || entryOf(y, "n103") != "" || len(y) != 16 || e != api.OK {
			t.Errorf("%q, one is gone: %s %s %d", line, told(r), lies(y), e)
		}
		in := split(strings.Replace(line, " k", " n103", 1))
		y, r, e = engine.Do(s, 6, in)
		if r.Kind == api.ReplyError || entryOf(y, "n103") == entryOf(s, "n103") || len(y) != 16 || e != api.OK {
			t.Errorf("%q in the place of one that is gone: %s %s %d", line, told(r), lies(y), e)
		}
		if y, r, e := engine.Do(full(15, 0), 5, split(line)); r.Kind == api.ReplyError || len(y) != 16 || e != api.OK {
			t.Errorf("%q, fifteen: %s %s %d", line, told(r), lies(y), e)
		}
	}
	play(t, full(16, 0), []step{
		{5, "get k", "nil", "same"}, {5, "lrem k v", ":0", "same"}, {5, "srem k v", ":0", "same"}, {5, "ltrim k 0 1", "OK", "same"}, {5, "lpop k", "nil", "same"}, {5, "del k", ":0", "same"}, {5, "expire k 3", ":0", "same"},
	})
	for line, want := range map[string]string{"set n100 v": "n100=v", "append n115 v": "n115=xv", "expire n107 3": "n107=x@8"} {
		if y, _, _ := engine.Do(full(16, 0), 5, split(line)); entryOf(y, split(line)[1]) != want || len(y) != 16 {
			t.Errorf("%q: %s", line, lies(y))
		}
	}
}

func TestK2Errors(t *testing.T) {
	falls := some(0)
	slices.Reverse(falls)
	wrong := some(0)
	wrong[2].Item.List = []string{"b", "a"}
	for _, c := range []struct {
		name string
		s    api.Space
		now  int
		want api.Errno
	}{
		{"below 0", some(0), -1, api.ErrRange},
		{"far below 0", some(0), near, api.ErrRange},
		{"too late", some(0), end + 1, api.ErrRange},
		{"far too late", nil, far, api.ErrRange},
		{"too many", full(17, 0), 0, api.ErrMany},
		{"too many, gone or not", full(17, 1), 5, api.ErrMany},
		{"keys that fall", falls, 0, api.ErrState},
		{"a set that falls", wrong, 0, api.ErrState},
		{"nothing by a key", api.Space{{Key: "a"}}, 0, api.ErrKind},
		{"until too late", some(end + 1), 0, api.ErrRange},
		{"the space ahead of the time", falls, -1, api.ErrState},
		{"too many ahead of the time", make(api.Space, 17), -1, api.ErrMany},
	} {
		for _, l := range [][]string{nil, {"ping"}, {"what"}, {"get", "t"}, {"set", "t", "1"}, {"del", "a", "t"}, make([]string, 13)} {
			y, r, e := engine.Do(c.s, c.now, l)
			if len(y) != 0 || !reflect.ValueOf(r).IsZero() || e != c.want {
				t.Errorf("%s, %q: %v %v %d, must be %d", c.name, l, y, r, e, c.want)
			}
		}
	}
	for _, now := range []int{0, 1, end - 1, end} {
		if y, r, e := engine.Do(some(0), now, []string{"ping"}); told(r) != "PONG" || lies(y) != lies(some(0)) || e != api.OK {
			t.Errorf("at %d: %s %d", now, told(r), e)
		}
	}
}

// reading: commands that only read, of keys that may be there or not.
const reading = "ping;get KEY;strlen KEY;getrange KEY 0 1;exists KEY t;type KEY;keys *;keys [;ttl KEY;lrange KEY 0 -1;sismember KEY a;smembers KEY;sinter KEY s;sunion KEY s;sdiff s KEY;hget KEY f;hgetall KEY;zscore KEY a;zrank KEY a;zrange KEY 0 -1;zrangebyscore KEY 0 9"

func TestK3WhatOnlyReadsChangesNothing(t *testing.T) {
	for _, s := range []api.Space{nil, some(0), some(5), some(6), full(16, 5), full(16, 6)} {
		for _, line := range strings.Split(reading, ";") {
			for _, key := range strings.Fields("h l s t z no n103") {
				y, _, e := engine.Do(s, 5, split(strings.ReplaceAll(line, "KEY", key)))
				if lies(y) != lies(s) || e != api.OK {
					t.Errorf("%q of %s: %s, was %s", line, key, lies(y), lies(s))
				}
			}
		}
	}
}

// drawn: a command of drawn words, mostly a known one with as many words as may be.
func drawn(d *rand.Rand) []string {
	all := known()
	form := all[d.Intn(len(all))]
	n := least(form)
	for range 3 {
		if m := d.Intn(12); may(form, m) {
			n = m
		}
	}
	if d.Intn(20) == 0 {
		n = d.Intn(14)
	}
	l := words(form, n)
	for i := 1; i < len(l); i++ {
		pool := []string{"h", "l", "s", "t", "z", "a", "b", "", "*", "[", "n100", "n101", long(60), "1", "7"}
		if i > 1 && d.Intn(30) > 0 {
			pool = []string{"0", "1", "-1", "2", "999999999", "-999999999", "999990"}
		}
		l[i] = pool[d.Intn(len(pool))]
	}
	return l
}

// TestK3WhatIsGoneIsNotSeen: scripts over a space, and over the same one swept, go alike.
func TestK3WhatIsGoneIsNotSeen(t *testing.T) {
	d := rand.New(rand.NewSource(6))
	errs := map[int]int{}
	for range 300 {
		now := d.Intn(10)
		s := append(some(d.Intn(12)), full(d.Intn(12), d.Intn(12))...)
		slices.SortFunc(s, func(a, b api.Entry) int { return strings.Compare(a.Key, b.Key) })
		for range 60 {
			now += d.Intn(2)
			l := drawn(d)
			swept, _, _ := space.Sweep(s, now)
			y, r, e := engine.Do(s, now, l)
			z, q, f := engine.Do(swept, now, l)
			if e != api.OK || f != api.OK || told(r) != told(q) {
				t.Fatalf("%q at %d of %s: %s, swept %s", l, now, lies(s), told(r), told(q))
			}
			a, _, _ := space.Sweep(y, now)
			b, _, _ := space.Sweep(z, now)
			if lies(a) != lies(b) || space.Check(y) != api.OK || reply.Check(r) != api.OK {
				t.Fatalf("%q at %d of %s: %s, swept %s", l, now, lies(s), lies(y), lies(z))
			}
			if r.Kind == api.ReplyError {
				errs[r.N]++
				if lies(y) != lies(s) {
					t.Fatalf("%q at %d of %s: an error, and %s", l, now, lies(s), lies(y))
				}
			}
			s = y
		}
	}
	for _, e := range []api.Errno{api.ErrForm, api.ErrMany, api.ErrRange, api.ErrKind} {
		if errs[int(e)] == 0 {
			t.Errorf("error %d was never met: %v", e, errs)
		}
	}
}

// TestP1OnlyWhatAKindNames: each reply has nothing beside what its kind names.
func TestP1OnlyWhatAKindNames(t *testing.T) {
	for _, form := range known() {
		for _, key := range strings.Fields("h l s t z no") {
			l := words(form, least(form))
			if len(l) > 1 {
				l[1] = key
			}
			if _, r, _ := engine.Do(some(9), 5, l); reply.Check(r) != api.OK {
				t.Errorf("%q: %v", l, r)
			}
		}
	}
}

// roomy: a space whose lists have spare room behind them, as it has itself.
func roomy() api.Space {
	s := append(make(api.Space, 0, 20), some(9)...)
	for i := range s {
		x := &s[i].Item
		x.List = append(make([]string, 0, 9), x.List...)
		x.Pairs = append(make([]api.Pair, 0, 9), x.Pairs...)
		x.Scores = append(make([]api.Score, 0, 9), x.Scores...)
	}
	return s
}

// spoil all that a space's lists and the room behind them have.
func spoil(s api.Space) {
	for i := range s[:cap(s)] {
		x := s[:cap(s)][i].Item
		for i := range x.List[:cap(x.List)] {
			x.List[:cap(x.List)][i] = "spoilt"
		}
		for i := range x.Pairs[:cap(x.Pairs)] {
			x.Pairs[:cap(x.Pairs)][i].Field = "spoilt"
		}
		for i := range x.Scores[:cap(x.Scores)] {
			x.Scores[:cap(x.Scores)][i].Member = "spoilt"
		}
		s[:cap(s)][i].Key = "spoilt"
	}
}

// all that a space has, with all the room behind it and behind its lists.
func all(s api.Space) string {
	told := ""
	for _, e := range s[:cap(s)] {
		x := e.Item
		told += fmt.Sprintf("%q %d %q %q %q %v %d; ", e.Key, x.Kind, x.Text, x.List[:cap(x.List)], x.Pairs[:cap(x.Pairs)], x.Scores[:cap(x.Scores)], e.Until)
	}
	return told
}

// TestP2WhatIsHandedInIsOnlyRead: nor is an answer changed by a later change of it, nor it by one of an answer.
func TestP2WhatIsHandedInIsOnlyRead(t *testing.T) {
	for _, form := range append(known(), []string{"what"}) {
		for n := range 13 {
			for _, key := range strings.Fields("h l s t z no") {
				l := append(words(form, n), "-", "-")[:n+1]
				if n > 0 {
					l[1] = key
				}
				handed := slices.Clone(l[:cap(l)])
				s := roomy()
				y, r, e := engine.Do(s, 5, l)
				if all(s) != all(roomy()) || !slices.Equal(l[:cap(l)], handed) || e != api.OK {
					t.Fatalf("%q: it is %s then", l, all(s))
				}
				was := lies(y) + told(r)
				spoil(s)
				for i := range l[:cap(l)] {
					l[:cap(l)][i] = "spoilt"
				}
				if lies(y)+told(r) != was {
					t.Fatalf("%q: %s, and was %s", handed, lies(y)+told(r), was)
				}
				s = roomy()
				y, _, _ = engine.Do(s, 5, handed[:n+1])
				spoil(y)
				if all(s) != all(roomy()) {
					t.Fatalf("%q: an answer shares memory: %s", handed, all(s))
				}
			}
		}
	}
}

// TestP2NoTwoListsShareMemory: not even if those that were handed in do.
func TestP2NoTwoListsShareMemory(t *testing.T) {
	shared := api.Item{Kind: api.ItemList, List: []string{"x", "y"}}
	for _, line := range []string{"ping", "what", "get a", "lrange a 0 1", "rpush a z", "set t v", "expire a 3", "persist a", "del no", "del a"} {
		y, _, _ := engine.Do(api.Space{{Key: "a", Item: shared, Until: 9}, {Key: "b", Item: shared}, {Key: "c", Item: shared}}, 5, split(line))
		for i := range y {
			spoil(y[i : i+1 : i+1])
			for _, other := range y[i+1:] {
				if slices.Contains(other.Item.List, "spoilt") {
					t.Errorf("%q: two lists share memory", line)
				}
			}
		}
		if slices.Contains(shared.List, "spoilt") {
			t.Fatalf("%q: shares memory with what was handed in", line)
		}
	}
}

func TestP3TheSameEachTime(t *testing.T) {
	tell := func() string {
		out := ""
		for _, form := range known() {
			l := words(form, least(form))
			y, r, e := engine.Do(some(9), 5, l)
			out += fmt.Sprintln(l, lies(y), told(r), e, engine.Known(l))
		}
		return out
	}
	first := tell()
	for range 5 {
		if tell() != first {
			t.Fatal("another answer")
		}
	}
}
