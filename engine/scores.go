package engine

import (
	"slices"

	"springhouse/api"
	"springhouse/score"
)

// ofScores: commands of scores.
func ofScores() []command {
	return []command{
		{"zadd", "k", "nm", changes(func(x api.Item, l []string) (api.Item, api.Reply, api.Errno) {
			return withNumber(score.Put(x, scores(l)))
		})},
		{"zrem", "k", "m", changes(func(x api.Item, l []string) (api.Item, api.Reply, api.Errno) {
			return withNumber(score.Drop(x, l))
		})},
		{"zscore", "km", "", reads(func(x api.Item, l []string) (api.Reply, api.Errno) {
			return asNumber(score.Number(x, l[0]))
		})},
		{"zrank", "km", "", reads(func(x api.Item, l []string) (api.Reply, api.Errno) {
			return asNumber(score.Rank(x, l[0]))
		})},
		{"zrange", "knn", "", reads(func(x api.Item, l []string) (api.Reply, api.Errno) {
			return asList(score.Range(x, number(l[0]), number(l[1])))
		})},
		{"zrangebyscore", "knn", "", reads(func(x api.Item, l []string) (api.Reply, api.Errno) {
			return asList(score.Within(x, number(l[0]), number(l[1])))
		})},
	}
}

// scores that words tell: a number and its member, one behind the other.
func scores(l []string) []api.Score {
	var told []api.Score
	for two := range slices.Chunk(l, 2) {
		told = append(told, api.Score{N: number(two[0]), Member: two[1]})
	}
	return told
}
