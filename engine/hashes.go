package engine

import (
	"slices"

	"springhouse/api"
	"springhouse/common"
	"springhouse/hash"
)

// ofHashes: commands of hashes.
func ofHashes() []command {
	return []command{
		{"hset", "k", "fv", changes(func(x api.Item, l []string) (api.Item, api.Reply, api.Errno) {
			return withNumber(hash.Put(x, pairs(l)))
		})},
		{"hget", "kf", "", reads(func(x api.Item, l []string) (api.Reply, api.Errno) {
			return asBytes(hash.Get(x, l[0]))
		})},
		{"hdel", "k", "f", changes(func(x api.Item, l []string) (api.Item, api.Reply, api.Errno) {
			return withNumber(hash.Drop(x, l))
		})},
		{"hgetall", "k", "", reads(func(x api.Item, _ []string) (api.Reply, api.Errno) {
			return asList(flat(x), common.Check(x, api.ItemHash))
		})},
	}
}

// pairs that words tell: a field and its value, one behind the other.
func pairs(l []string) []api.Pair {
	var told []api.Pair
	for two := range slices.Chunk(l, 2) {
		told = append(told, api.Pair{Field: two[0], Value: two[1]})
	}
	return told
}

// flat: the fields and the values of a hash, one behind the other.
func flat(x api.Item) []string {
	var l []string
	for _, p := range x.Pairs {
		l = append(l, p.Field, p.Value)
	}
	return l
}
