package tests

import (
	"fmt"
	"slices"
	"strings"
	"testing"

	"loop.example/g01314/impl"
)

// Promise 11 for chapter 3: every function accepts all arguments without
// panicking and modifies none of them. What fails returns zero values.

func textsForChapter3() []string {
	return append(hostileTexts(), "000", strings.Repeat("0", 12), strings.Repeat("1", 12), strings.Repeat("1", 13), "0x", "1\x00", "\xff11", "-1")
}

func numbersForChapter3() []int {
	return append(hostileNumbers(), -2, 4, 5, 6, 9, 10, 11, 12, 13, 9999, 10000, 10001)
}

func listsForChapter3() [][]int {
	return append(hostileLists(), []int{-1, -1, -1}, []int{-2}, []int{0, 2, 0, -1}, []int{-1, 12},
		slices.Repeat([]int{-1}, 2000), slices.Repeat([]int{-1}, 2001))
}

func TestChapter3AcceptsAllTexts(t *testing.T) {
	for _, s := range textsForChapter3() {
		what := fmt.Sprintf(" %.30q", s)
		called(t, "PairMovesOf"+what, func() { emptyUnless(t, what)(impl.PairMovesOf(s)) })
		called(t, "FarthestByPairs"+what, func() {
			far, n, ok := impl.FarthestByPairs(s)
			if !ok && (len(far) != 0 || n != 0) {
				t.Errorf("FarthestByPairs%s: %v %d", what, far, n)
			}
		})
		for _, n := range numbersForChapter3() {
			called(t, "MakePairMove"+what, func() { blankUnless(t, what)(impl.MakePairMove(s, n)) })
			called(t, "NearByPairs"+what, func() {
				if near, ok := impl.NearByPairs(s, n); !ok && len(near) != 0 {
					t.Errorf("NearByPairs%s %d: %v", what, n, near)
				}
			})
		}
	}
}

func TestChapter3AcceptsAllTwoTexts(t *testing.T) {
	for _, a := range textsForChapter3() {
		for _, b := range textsForChapter3() {
			what := fmt.Sprintf(" %.30q %.30q", a, b)
			called(t, "FewestPairMoves"+what, func() { zeroUnless(t, what)(impl.FewestPairMoves(a, b)) })
			called(t, "FirstPairMoves"+what, func() { emptyUnless(t, what)(impl.FirstPairMoves(a, b)) })
			called(t, "CountPairWays"+what, func() { zeroUnless(t, what)(impl.CountPairWays(a, b)) })
			called(t, "SavedByPairs"+what, func() { zeroUnless(t, what)(impl.SavedByPairs(a, b)) })
			called(t, "PairsUsed"+what, func() { zeroUnless(t, what)(impl.PairsUsed(a, b)) })
		}
	}
}

func TestChapter3AcceptsAllNumbers(t *testing.T) {
	for _, n := range numbersForChapter3() {
		what := fmt.Sprint(" ", n)
		called(t, "PairMovesToClear"+what, func() { zeroUnless(t, what)(impl.PairMovesToClear(n)) })
		called(t, "MostSaved"+what, func() { zeroUnless(t, what)(impl.MostSaved(n)) })
		for _, moves := range numbersForChapter3() {
			called(t, "CountByPairs"+what, func() { zeroUnless(t, what)(impl.CountByPairs(n, moves)) })
		}
	}
}

func TestChapter3AcceptsAllListsAndChangesNone(t *testing.T) {
	for _, list := range listsForChapter3() {
		what := fmt.Sprintf(" %.30s", fmt.Sprint(list))
		for _, s := range textsForChapter3() {
			untouched(t, "PlayPairMoves"+what, list, func(l []int) { blankUnless(t, what)(impl.PlayPairMoves(s, l)) })
		}
	}
}

func TestChapter3ResultsAreNew(t *testing.T) {
	newEachTime(t, "PairMovesOf", -9, func() []int { l, _ := impl.PairMovesOf("000"); return l })
	newEachTime(t, "FirstPairMoves", -9, func() []int { l, _ := impl.FirstPairMoves("111", "000"); return l })
	newEachTime(t, "FarthestByPairs", "?", func() []string { l, _, _ := impl.FarthestByPairs("111"); return l })
	newEachTime(t, "NearByPairs", "?", func() []string { l, _ := impl.NearByPairs("111", 2); return l })
}
