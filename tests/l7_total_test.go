package tests

import (
	"fmt"
	"slices"
	"strings"
	"testing"

	"loop.example/g01314/impl"
)

// Promise 11 for chapter 7: every function accepts all arguments without
// panicking. No function is given a slice that it could change. What fails
// returns zero values.

func textsForChapter7() []string {
	return append(hostileTexts(), "10", "010", "100", strings.Repeat("0", 12), strings.Repeat("1", 12), strings.Repeat("0", 11)+"1", strings.Repeat("1", 13),
		strings.Repeat("1", 11)+"2", strings.Repeat("\x00", 12), strings.Repeat("１", 4))
}

func numbersForChapter7() []int {
	return append(hostileNumbers(), -40, 4, 11, 12, 13, 39, 40, 41, 100, 101)
}

func noRatioUnless(t *testing.T, what string) func(int, int, bool) {
	return func(n, d int, ok bool) {
		t.Helper()
		if !ok && (n != 0 || d != 0) || ok && (n < 0 || d < 1 || !inLowestTerms(n, d)) {
			t.Errorf("%d / %d, %v:%s", n, d, ok, what)
		}
	}
}

func TestChapter7AcceptsAllTexts(t *testing.T) {
	for _, s := range textsForChapter7() {
		what := fmt.Sprintf(" %.30q", s)
		called(t, "MeanToClear"+what, func() { zeroUnless(t, what)(impl.MeanToClear(s)) })
		for _, moves := range numbersForChapter7() {
			called(t, "LikeliestAfter"+what, func() { noTextsUnless(t, what)(impl.LikeliestAfter(s, moves)) })
		}
	}
}

func TestChapter7AcceptsAllTwoTexts(t *testing.T) {
	for _, a := range textsForChapter7() {
		for _, b := range textsForChapter7() {
			what := fmt.Sprintf(" %.30q %.30q", a, b)
			called(t, "MeanFrom"+what, func() { zeroUnless(t, what)(impl.MeanFrom(a, b)) })
			called(t, "MeanOnAlong"+what, func() { noRatioUnless(t, what)(impl.MeanOnAlong(a, b)) })
			for _, moves := range numbersForChapter7() {
				called(t, "WalksTo"+what, func() { zeroUnless(t, what)(impl.WalksTo(a, b, moves)) })
				called(t, "ChanceAfter"+what, func() { noRatioUnless(t, what)(impl.ChanceAfter(a, b, moves)) })
			}
		}
	}
}

func TestChapter7AcceptsAllThreeTexts(t *testing.T) {
	for _, s := range textsForChapter7() {
		for _, a := range textsForChapter7() {
			for _, b := range textsForChapter7() {
				what := fmt.Sprintf(" %.30q %.30q %.30q", s, a, b)
				called(t, "ChanceBefore"+what, func() { noRatioUnless(t, what)(impl.ChanceBefore(s, a, b)) })
			}
		}
	}
}

func TestChapter7AcceptsAllNumbers(t *testing.T) {
	for _, rings := range numbersForChapter7() {
		what := fmt.Sprint(" ", rings)
		called(t, "MeanNumber"+what, func() { noRatioUnless(t, what)(impl.MeanNumber(rings)) })
		called(t, "MeanOfPairs"+what, func() { noRatioUnless(t, what)(impl.MeanOfPairs(rings)) })
		for _, on := range numbersForChapter7() {
			what := fmt.Sprint(" ", rings, " ", on)
			called(t, "CountWithOn"+what, func() { zeroUnless(t, what)(impl.CountWithOn(rings, on)) })
			called(t, "LeastWithOn"+what, func() { blankUnless(t, what)(impl.LeastWithOn(rings, on)) })
			called(t, "GreatestWithOn"+what, func() { blankUnless(t, what)(impl.GreatestWithOn(rings, on)) })
			called(t, "SumWithOn"+what, func() { zeroUnless(t, what)(impl.SumWithOn(rings, on)) })
			called(t, "StatesWithOn"+what, func() { noTextsUnless(t, what)(impl.StatesWithOn(rings, on)) })
		}
	}
}

func TestChapter7ResultsAreNew(t *testing.T) {
	newEachTime(t, "StatesWithOn", "?", func() []string { l, _ := impl.StatesWithOn(9, 3); return roomOf(l) })
	newEachTime(t, "StatesWithOn of one state", "?", func() []string { l, _ := impl.StatesWithOn(12, 0); return roomOf(l) })
	newEachTime(t, "LikeliestAfter", "?", func() []string { l, _ := impl.LikeliestAfter("110", 3); return roomOf(l) })
	newEachTime(t, "LikeliestAfter no moves", "?", func() []string { l, _ := impl.LikeliestAfter("110", 0); return roomOf(l) })
}

// No state is kept: what a call returns does not depend on the calls before it.
func TestChapter7KeepsNothing(t *testing.T) {
	before, _ := impl.LikeliestAfter("0110", 40)
	n, d, _ := impl.ChanceAfter("0110", "1010", 39)
	for _, moves := range numbersForChapter7() {
		impl.WalksTo("0110", "1010", moves)
		impl.LikeliestAfter("0110", moves)
		impl.ChanceAfter(off(12), "1"+off(11), moves)
	}
	after, ok := impl.LikeliestAfter("0110", 40)
	if m, e, fine := impl.ChanceAfter("0110", "1010", 39); !ok || !fine || m != n || e != d || !slices.Equal(after, before) {
		t.Error("the same calls return something else", m, e, after)
	}
}
