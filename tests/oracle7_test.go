package tests

import (
	"math/big"
	"testing"
)

// The rules of chapter 7 on texts: walks go along moves that the rules allow,
// one list after the other or all of them step by step, and chances are exact.

// besides returns the states behind the moves that can be made, by their rings.
func besides(s string) []string {
	var states []string
	for k := range s {
		if ruleMoves(s, k) {
			states = append(states, flipped(s, k))
		}
	}
	return states
}

// lineOf returns all states of so many rings by their numbers: from the state
// in which all rings are off on, moves never lead back to the state before.
func lineOf(rings int) []string {
	line := []string{off(rings)}
	before := ""
	for i := 0; i < len(line); i++ {
		for _, next := range besides(line[i]) {
			if next != before {
				line = append(line, next)
			}
		}
		before = line[i]
	}
	return line
}

// listedWalks tries all lists of so many rings, and counts for each state those of which each move can be made.
func listedWalks(start string, moves int) map[string]int {
	if moves == 0 {
		return map[string]int{start: 1}
	}
	walks := map[string]int{}
	for k := range start {
		if ruleMoves(start, k) {
			for end, count := range listedWalks(flipped(start, k), moves-1) {
				walks[end] += count
			}
		}
	}
	return walks
}

// walkCounts tells for each number of moves up to most, and each state, how many lists of so many moves lead to it.
func walkCounts(start string, most int) []map[string]int {
	counts := []map[string]int{{start: 1}}
	for range most {
		next := map[string]int{}
		for s, count := range counts[len(counts)-1] {
			for _, behind := range besides(s) {
				next[behind] += count
			}
		}
		counts = append(counts, next)
	}
	return counts
}

// walkChances tells for each number of moves up to most, and each state that can be come to by so many, the chance of it.
func walkChances(start string, most int) []map[string]*big.Rat {
	chances := []map[string]*big.Rat{{start: big.NewRat(1, 1)}}
	for range most {
		next := map[string]*big.Rat{}
		for s, chance := range chances[len(chances)-1] {
			behind := besides(s)
			for _, end := range behind {
				if next[end] == nil {
					next[end] = new(big.Rat)
				}
				next[end].Add(next[end], new(big.Rat).Mul(chance, big.NewRat(1, int64(len(behind)))))
			}
		}
		chances = append(chances, next)
	}
	return chances
}

// likeliestOf returns the states of a line with the greatest chance, in its order.
func likeliestOf(line []string, chances map[string]*big.Rat) []string {
	greatest := new(big.Rat)
	var states []string
	for _, s := range line {
		chance := chances[s]
		if chance == nil || chance.Cmp(greatest) < 0 {
			continue
		}
		if chance.Cmp(greatest) > 0 {
			greatest, states = chance, nil
		}
		states = append(states, s)
	}
	return states
}

// wantRatio compares a numerator and a denominator, which have to be in lowest terms, 0 as 0 and 1.
func wantRatio(t *testing.T, what string, n, d int, ok bool, wanted *big.Rat) {
	t.Helper()
	if !ok || !wanted.Num().IsInt64() || !wanted.Denom().IsInt64() || int64(n) != wanted.Num().Int64() || int64(d) != wanted.Denom().Int64() {
		t.Errorf("%s: got %d / %d, %v, want %v, true", what, n, d, ok, wanted)
	}
}

func wantNoRatio(t *testing.T, what string, n, d int, ok bool) {
	t.Helper()
	if ok || n != 0 || d != 0 {
		t.Errorf("%s: got %d / %d, %v, want a failure", what, n, d, ok)
	}
}
