package engine

import (
	"springhouse/api"
	"springhouse/space"
)

// ofKeys: commands of keys, whatever their items are; and the one that asks for nothing.
func ofKeys() []command {
	return []command{
		{"ping", "", "", func(*keeper, []string) (api.Reply, api.Errno) { return wordReply("PONG"), api.OK }},
		{"del", "", "k", drop},
		{"exists", "", "k", count},
		{"type", "k", "", reads(func(x api.Item, _ []string) (api.Reply, api.Errno) {
			return wordReply(kind(x)), api.OK
		})},
		{"keys", "p", "", func(k *keeper, l []string) (api.Reply, api.Errno) {
			return asList(space.Keys(k.space, k.now, l[0]))
		}},
		{"expire", "kn", "", expire},
		{"ttl", "k", "", left},
		{"persist", "k", "", persist},
	}
}

// drop keys: one that is told twice goes once.
func drop(k *keeper, l []string) (api.Reply, api.Errno) {
	went := 0
	for _, key := range l {
		if k.has(key) {
			went++
		}
		if e := k.drop(key); e != api.OK {
			return api.Reply{}, e
		}
	}
	return numberReply(went), api.OK
}

// count keys that are there: one that is told twice counts twice.
func count(k *keeper, l []string) (api.Reply, api.Errno) {
	there := 0
	for _, key := range l {
		if k.has(key) {
			there++
		}
	}
	return numberReply(there), api.OK
}

func kind(x api.Item) string {
	switch x.Kind {
	case api.ItemText:
		return "string"
	case api.ItemList:
		return "list"
	case api.ItemSet:
		return "set"
	case api.ItemHash:
		return "hash"
	case api.ItemScore:
		return "zset"
	}
	return "none"
}

// expire: a key is there for so long yet. Of one that is not there no number is wrong.
func expire(k *keeper, l []string) (api.Reply, api.Errno) {
	key, n := l[0], number(l[1])
	if !k.has(key) {
		return numberReply(0), api.OK
	}
	if n < 1 {
		return numberReply(1), k.drop(key)
	}
	return numberReply(1), k.put(key, k.item(key), k.now+n)
}

// left: how long a key is there yet.
func left(k *keeper, l []string) (api.Reply, api.Errno) {
	if !k.has(l[0]) {
		return numberReply(-2), api.OK
	}
	until := k.until(l[0])
	if until == 0 {
		return numberReply(-1), api.OK
	}
	return numberReply(until - k.now), api.OK
}

// persist: a key is there for ever; of one that is not there, until tells that too.
func persist(k *keeper, l []string) (api.Reply, api.Errno) {
	if k.until(l[0]) == 0 {
		return numberReply(0), api.OK
	}
	return numberReply(1), k.put(l[0], k.item(l[0]), 0)
}
