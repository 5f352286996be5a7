package engine

import (
	"springhouse/api"
	"springhouse/common"
	"springhouse/text"
)

// ofTexts: commands of texts.
func ofTexts() []command {
	return []command{
		{"get", "k", "", reads(func(x api.Item, _ []string) (api.Reply, api.Errno) {
			return asBytes(whole(x))
		})},
		{"set", "kv", "", func(k *keeper, l []string) (api.Reply, api.Errno) {
			return wordReply("OK"), k.put(l[0], api.Item{Kind: api.ItemText, Text: l[1]}, 0)
		}},
		{"append", "kv", "", changes(func(x api.Item, l []string) (api.Item, api.Reply, api.Errno) {
			return withNumber(text.Append(x, l[0]))
		})},
		{"strlen", "k", "", reads(func(x api.Item, _ []string) (api.Reply, api.Errno) {
			return asNumber(text.Len(x))
		})},
		{"incrby", "kn", "", changes(func(x api.Item, l []string) (api.Item, api.Reply, api.Errno) {
			return withNumber(text.Add(x, number(l[0])))
		})},
		{"getrange", "knn", "", reads(func(x api.Item, l []string) (api.Reply, api.Errno) {
			return asBytes(text.Range(x, number(l[0]), number(l[1])))
		})},
	}
}

// whole text: nothing has none, not even an empty one.
func whole(x api.Item) (string, api.Errno) {
	if common.IsNothing(x) {
		return "", api.ErrNone
	}
	return text.Range(x, 0, -1)
}
