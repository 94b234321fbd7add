package tests

import (
	"cmp"
	"slices"
	"strings"
)

// The rules of chapter 5 on texts: what is told of few rings is compared with
// lists of all fewest moves, what is told of many with a search forward that
// keeps the first list of each state.

// ruleFits compares the signs of the other rings one by one.
func ruleFits(keys []string, s string, k int) bool {
	for other := range s {
		if other != k && keys[k][other] != '?' && keys[k][other] != s[other] {
			return false
		}
	}
	return true
}

// ruleKeyedMoves returns all rings that can be moved, increasing.
func ruleKeyedMoves(keys []string, s string) []int {
	var moves []int
	for k := range keys {
		if ruleFits(keys, s, k) {
			moves = append(moves, k)
		}
	}
	return moves
}

// keyedLists maps each state of a part to all lists of fewest moves from start to it, in order.
func keyedLists(keys []string, start string) map[string][][]int {
	return listsFrom(start, func(s string) []int { return ruleKeyedMoves(keys, s) }, flipped, cmp.Compare[int])
}

type keyedWays = foundWays[int]

// keyedWaysFrom maps each state of a part to its ways from start.
func keyedWaysFrom(keys []string, start string) map[string]keyedWays {
	return waysFrom(start, func(s string) []int { return ruleKeyedMoves(keys, s) }, flipped)
}

// keyedFacts are what is told of keys alone.
type keyedFacts struct {
	parts   int
	longest int
	links   int
	isLine  bool
}

// ruleKeyedFacts searches from each state.
func ruleKeyedFacts(keys []string) keyedFacts {
	var facts keyedFacts
	ends, most := 0, 0
	states := statesOf(len(keys))
	links := map[[2]string]bool{}
	firsts := map[string]bool{}
	for _, s := range states {
		distances := keyedDistances(keys, s)
		first := s
		for other, moves := range distances {
			first = min(first, other)
			facts.longest = max(facts.longest, moves)
			if moves == 1 {
				links[[2]string{min(s, other), max(s, other)}] = true
			}
		}
		firsts[first] = true
		moves := len(ruleKeyedMoves(keys, s))
		most = max(most, moves)
		if moves == 1 {
			ends++
		}
	}
	facts.parts, facts.links = len(firsts), len(links)
	facts.isLine = len(firsts) == 1 && most <= 2 && ends == 2
	return facts
}

// keyedDistances maps each state of a part to the fewest number of moves from start to it.
func keyedDistances(keys []string, start string) map[string]int {
	return distancesFrom(start, func(s string) []int { return ruleKeyedMoves(keys, s) }, flipped)
}

// mirrored returns a text told from its last sign on.
func mirrored(s string) string {
	signs := []byte(s)
	slices.Reverse(signs)
	return string(signs)
}

// keysOfText reads a KeysText by itself.
func keysOfText(s string) []string {
	return strings.Split(s, "/")
}
