package tests

import (
	"cmp"
	"slices"
	"strings"
)

// The rules of chapter 3 on texts: what is told by lists of all fewest moves
// is compared with these, what is told of long bars with the distances alone.

// rulePairMoves returns the moves in order; -1 stands for both rings at once.
func rulePairMoves(s string) []int {
	var moves []int
	if strings.HasPrefix(s, "11") || strings.HasPrefix(s, "00") {
		moves = append(moves, -1)
	}
	for k := range s {
		if ruleMoves(s, k) {
			moves = append(moves, k)
		}
	}
	return moves
}

func pairFlipped(s string, k int) string {
	if k == -1 {
		return flipped(flipped(s, 0), 1)
	}
	return flipped(s, k)
}

// pairLists maps each state to all lists of fewest moves from start to it, in order.
func pairLists(start string) map[string][][]int {
	return listsFrom(start, rulePairMoves, pairFlipped, cmp.Compare[int])
}

// pairDistances maps each state to the fewest number of moves from start to it.
func pairDistances(start string) map[string]int {
	return distancesFrom(start, rulePairMoves, pairFlipped)
}

// statesAt returns the states with distances from least to most, those with lesser numbers first.
func statesAt(distances, numbers map[string]int, least, most int) []string {
	var states []string
	for s, moves := range distances {
		if moves >= least && moves <= most {
			states = append(states, s)
		}
	}
	slices.SortFunc(states, func(a, b string) int { return numbers[a] - numbers[b] })
	return states
}

func greatestDistance(distances map[string]int) int {
	most := 0
	for _, moves := range distances {
		most = max(most, moves)
	}
	return most
}

func countOf(list []int, number int) int {
	count := 0
	for _, n := range list {
		if n == number {
			count++
		}
	}
	return count
}
