package tests

import (
	"fmt"
	"slices"
	"testing"

	"loop.example/g01314/impl"
)

// Promise 11 for chapter 2: every function accepts all arguments without
// panicking and modifies none of them. What fails returns zero values.

func numbersForChapter2() []int {
	return append(hostileNumbers(), 4, 5, 9, 10, 11, 39, 40, 41, 50, 51, 1<<39-1, 1<<40-1, 1<<40, most-1, most, most+1)
}

func listsForChapter2() [][]int {
	return append(hostileLists(), []int{1, 0}, []int{2, 0, 1}, []int{0, 1, 2, 3}, []int{20, 20}, []int{2, 3, 0}, []int{0, 2, 19},
		[]int{9, 8, 7, 6, 5, 4, 3, 2, 1, 0}, []int{10, 9, 8, 7, 6, 5, 4, 3, 2, 1, 0}, []int{20, 20, 20, 20, 20, 20, 20, 20}, []int{21, 1})
}

func TestChapter2AcceptsAllNumbers(t *testing.T) {
	for _, n := range numbersForChapter2() {
		what := fmt.Sprint(" ", n)
		called(t, "ReflectedOf"+what, func() { zeroUnless(t, what)(impl.ReflectedOf(n)) })
		called(t, "NumberOfReflected"+what, func() { zeroUnless(t, what)(impl.NumberOfReflected(n)) })
		called(t, "ChangedDigit"+what, func() { zeroUnless(t, what)(impl.ChangedDigit(n)) })
		for _, m := range numbersForChapter2() {
			what := fmt.Sprint(" ", n, " ", m)
			called(t, "PlainSum"+what, func() { zeroUnless(t, what)(impl.PlainSum(n, m)) })
			called(t, "ReflectedText"+what, func() { blankUnless(t, what)(impl.ReflectedText(n, m)) })
			called(t, "SetAt"+what, func() { emptyUnless(t, what)(impl.SetAt(n, m)) })
			called(t, "CountChoices"+what, func() { zeroUnless(t, what)(impl.CountChoices(n, m)) })
			called(t, "SwappedAt"+what, func() { emptyUnless(t, what)(impl.SwappedAt(n, m)) })
			called(t, "SwapPlace"+what, func() { zeroUnless(t, what)(impl.SwapPlace(n, m)) })
			for _, k := range numbersForChapter2() {
				what := fmt.Sprint(" ", n, " ", m, " ", k)
				called(t, "TimesChanged"+what, func() { zeroUnless(t, what)(impl.TimesChanged(n, m, k)) })
				called(t, "ChoiceAt"+what, func() { emptyUnless(t, what)(impl.ChoiceAt(n, m, k)) })
			}
		}
	}
}

func TestChapter2AcceptsAllTexts(t *testing.T) {
	for _, s := range hostileTexts() {
		what := fmt.Sprintf(" %.30q", s)
		called(t, "RankOfText"+what, func() { zeroUnless(t, what)(impl.RankOfText(s)) })
	}
}

func TestChapter2AcceptsAllListsAndChangesNone(t *testing.T) {
	for _, list := range listsForChapter2() {
		what := fmt.Sprintf(" %.30s", fmt.Sprint(list))
		untouched(t, "RankOfSwapped"+what, list, func(l []int) { zeroUnless(t, what)(impl.RankOfSwapped(l)) })
		for _, n := range numbersForChapter2() {
			untouched(t, "RankOfSet"+what, list, func(l []int) { zeroUnless(t, what)(impl.RankOfSet(n, l)) })
			untouched(t, "RankOfChoice"+what, list, func(l []int) { zeroUnless(t, what)(impl.RankOfChoice(n, l)) })
			untouched(t, "MixedAt"+what, list, func(l []int) { emptyUnless(t, what)(impl.MixedAt(l, n)) })
		}
		for _, other := range listsForChapter2() {
			untouched(t, "RankOfMixed"+what, list, func(l []int) { zeroUnless(t, what)(impl.RankOfMixed(l, other)) })
			untouched(t, "RankOfMixed"+what, list, func(l []int) { zeroUnless(t, what)(impl.RankOfMixed(other, l)) })
		}
	}
}

func TestChapter2ResultsAreNew(t *testing.T) {
	limits := []int{2, 3, 4}
	newEachTime(t, "SetAt", -9, func() []int { l, _ := impl.SetAt(8, 77); return l })
	newEachTime(t, "ChoiceAt", -9, func() []int { l, _ := impl.ChoiceAt(8, 3, 20); return l })
	newEachTime(t, "SwappedAt", -9, func() []int { l, _ := impl.SwappedAt(6, 300); return l })
	newEachTime(t, "MixedAt", -9, func() []int { l, _ := impl.MixedAt(limits, 11); return l })
	if !slices.Equal(limits, []int{2, 3, 4}) {
		t.Error("MixedAt hands out its limits", limits)
	}
}
