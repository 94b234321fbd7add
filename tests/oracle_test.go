package tests

import (
	"slices"
	"strings"
	"testing"
)

// The rules of chapter 1 as the document words them, on texts, and a search
// that knows nothing of numbers: what the program returns is compared with it.

func ruleMoves(s string, k int) bool {
	if k < 0 || k >= len(s) {
		return false
	}
	return k == 0 || s[k-1] == '1' && !strings.Contains(s[:k-1], "1")
}

func flipped(s string, k int) string {
	t := []byte(s)
	t[k] = '0' + '1' - t[k]
	return string(t)
}

func off(rings int) string {
	return strings.Repeat("0", rings)
}

func statesOf(rings int) []string {
	list := []string{""}
	for range rings {
		var longer []string
		for _, s := range list {
			longer = append(longer, s+"0", s+"1")
		}
		list = longer
	}
	return list
}

// searched maps each state to a list of fewest moves from start to it.
func searched(start string) map[string][]int {
	ways := map[string][]int{start: {}}
	queue := []string{start}
	for len(queue) > 0 {
		s := queue[0]
		queue = queue[1:]
		for k := range s {
			if !ruleMoves(s, k) {
				continue
			}
			t := flipped(s, k)
			if _, seen := ways[t]; !seen {
				ways[t] = append(slices.Clone(ways[s]), k)
				queue = append(queue, t)
			}
		}
	}
	return ways
}

// walked returns the states behind 0, 1, .. of the moves.
func walked(s string, moves []int) []string {
	list := []string{s}
	for _, k := range moves {
		s = flipped(s, k)
		list = append(list, s)
	}
	return list
}

func numbersOf(rings int) map[string]int {
	numbers := map[string]int{}
	for s, way := range searched(off(rings)) {
		numbers[s] = len(way)
	}
	return numbers
}

// want compares the results of a call that is to succeed.
func want[T comparable](t *testing.T, what string, got T, ok bool, wanted T) {
	t.Helper()
	if !ok || got != wanted {
		t.Errorf("%s: got %v, %v, want %v, true", what, got, ok, wanted)
	}
}

func wantList[T comparable](t *testing.T, what string, got []T, ok bool, wanted []T) {
	t.Helper()
	if !ok || !slices.Equal(got, wanted) {
		t.Errorf("%s: got %v, %v, want %v, true", what, got, ok, wanted)
	}
}

// wantFail checks a call that is to fail: its other results are zero.
func wantFail[T comparable](t *testing.T, what string, got T, ok bool) {
	t.Helper()
	var zero T
	if ok || got != zero {
		t.Errorf("%s: got %v, %v, want a failure", what, got, ok)
	}
}

func wantFailList[T any](t *testing.T, what string, got []T, ok bool) {
	t.Helper()
	if ok || len(got) != 0 {
		t.Errorf("%s: got %v, %v, want a failure", what, got, ok)
	}
}
