package engine

import (
	"springhouse/api"
	"springhouse/set"
)

// ofSets: commands of sets.
func ofSets() []command {
	return []command{
		{"sadd", "k", "v", changes(func(x api.Item, l []string) (api.Item, api.Reply, api.Errno) {
			return withNumber(set.Add(x, l))
		})},
		{"srem", "k", "v", changes(func(x api.Item, l []string) (api.Item, api.Reply, api.Errno) {
			return withNumber(set.Remove(x, l))
		})},
		{"sismember", "kv", "", reads(func(x api.Item, l []string) (api.Reply, api.Errno) {
			return asFlag(set.Has(x, l[0]))
		})},
		{"smembers", "k", "", ofAll(set.Join)}, // what one set alone joins to is its members
		{"sinter", "", "k", ofAll(set.Meet)},
		{"sunion", "", "k", ofAll(set.Join)},
		{"sdiff", "", "k", ofAll(set.Less)},
	}
}

// ofAll: a deed that answers what the items of all keys have.
func ofAll(ask func(l []api.Item) ([]string, api.Errno)) deed {
	return func(k *keeper, l []string) (api.Reply, api.Errno) {
		return asList(ask(k.items(l)))
	}
}
