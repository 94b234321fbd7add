package tests

import (
	"math/big"
	"slices"
)

// Searches over texts by the moves that a chapter's rules tell: moves returns
// those from a state in their order, and behind the state behind one of them.

// listsFrom maps each state that is reached to all lists of fewest moves from start to it, in order.
func listsFrom[M any](start string, moves func(string) []M, behind func(string, M) string, compare func(M, M) int) map[string][][]M {
	lists := map[string][][]M{start: {nil}}
	for level := []string{start}; len(level) > 0; {
		reached := map[string][][]M{}
		for _, s := range level {
			for _, m := range moves(s) {
				next := behind(s, m)
				if _, seen := lists[next]; seen {
					continue
				}
				for _, way := range lists[s] {
					reached[next] = append(reached[next], append(slices.Clone(way), m))
				}
			}
		}
		level = nil
		for s, ways := range reached {
			slices.SortFunc(ways, func(a, b []M) int { return slices.CompareFunc(a, b, compare) })
			lists[s] = ways
			level = append(level, s)
		}
	}
	return lists
}

// foundWays tells of one state the first list of fewest moves to it, and how many such lists there are.
type foundWays[M any] struct {
	first []M
	count *big.Int
}

// waysFrom maps each state that is reached to its ways from start. States come
// in the order of their first lists, so that the first list found is the first one.
func waysFrom[M any](start string, moves func(string) []M, behind func(string, M) string) map[string]foundWays[M] {
	ways := map[string]foundWays[M]{start: {count: big.NewInt(1)}}
	queue := []string{start}
	for len(queue) > 0 {
		s := queue[0]
		queue = queue[1:]
		for _, m := range moves(s) {
			next := behind(s, m)
			if _, seen := ways[next]; !seen {
				ways[next] = foundWays[M]{first: append(slices.Clone(ways[s].first), m), count: big.NewInt(0)}
				queue = append(queue, next)
			}
			if len(ways[next].first) == len(ways[s].first)+1 {
				ways[next].count.Add(ways[next].count, ways[s].count)
			}
		}
	}
	return ways
}

// farthestOf returns the first one of the states with the longest lists, and how long these are.
func farthestOf[M any](ways map[string]foundWays[M]) (string, int) {
	far, most := "", -1
	for s, way := range ways {
		if n := len(way.first); n > most || n == most && s < far {
			far, most = s, n
		}
	}
	return far, most
}

// distancesFrom maps each state that is reached to the fewest number of moves from start to it.
func distancesFrom[M any](start string, moves func(string) []M, behind func(string, M) string) map[string]int {
	distances := map[string]int{start: 0}
	queue := []string{start}
	for len(queue) > 0 {
		s := queue[0]
		queue = queue[1:]
		for _, m := range moves(s) {
			next := behind(s, m)
			if _, seen := distances[next]; !seen {
				distances[next] = distances[s] + 1
				queue = append(queue, next)
			}
		}
	}
	return distances
}
