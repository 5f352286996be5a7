package engine

import (
	"springhouse/api"
	"springhouse/list"
)

// ofLists: commands of lists.
func ofLists() []command {
	return []command{
		{"lpush", "k", "v", push(true)},
		{"rpush", "k", "v", push(false)},
		{"lpop", "k", "", pop(true)},
		{"rpop", "k", "", pop(false)},
		{"lrange", "knn", "", reads(func(x api.Item, l []string) (api.Reply, api.Errno) {
			return asList(list.Range(x, number(l[0]), number(l[1])))
		})},
		{"ltrim", "knn", "", changes(func(x api.Item, l []string) (api.Item, api.Reply, api.Errno) {
			return withOK(list.Trim(x, number(l[0]), number(l[1])))
		})},
		{"lrem", "kv", "", changes(func(x api.Item, l []string) (api.Item, api.Reply, api.Errno) {
			return withNumber(list.Remove(x, l[0]))
		})},
	}
}

func push(left bool) deed {
	return changes(func(x api.Item, l []string) (api.Item, api.Reply, api.Errno) {
		return withNumber(list.Push(x, left, l))
	})
}

func pop(left bool) deed {
	return changes(func(x api.Item, _ []string) (api.Item, api.Reply, api.Errno) {
		return withBytes(list.Pop(x, left))
	})
}
