package tests

import (
	"fmt"
	"testing"

	"loop.example/g01314/impl"
)

// Promise 11 for chapter 1: every function accepts all arguments without
// panicking and modifies none of them. What fails returns zero values.

func TestChapter1AcceptsAllTexts(t *testing.T) {
	for _, s := range hostileTexts() {
		what := fmt.Sprintf(" %.30q", s)
		called(t, "IsState"+what, func() { impl.IsState(s) })
		called(t, "CountOn"+what, func() { zeroUnless(t, what)(impl.CountOn(s)) })
		called(t, "MovesOf"+what, func() { emptyUnless(t, what)(impl.MovesOf(s)) })
		called(t, "NumberOfState"+what, func() { zeroUnless(t, what)(impl.NumberOfState(s)) })
		called(t, "ParseMoves"+what, func() { emptyUnless(t, what)(impl.ParseMoves(s)) })
		called(t, "FarthestFrom"+what, func() {
			far, n, ok := impl.FarthestFrom(s)
			if !ok && (len(far) != 0 || n != 0) {
				t.Errorf("FarthestFrom%s: %v %d", what, far, n)
			}
		})
		for _, k := range hostileNumbers() {
			called(t, "MoveRing"+what, func() { blankUnless(t, what)(impl.MoveRing(s, k)) })
		}
	}
}

func TestChapter1AcceptsAllTwoTexts(t *testing.T) {
	for _, a := range hostileTexts() {
		for _, b := range hostileTexts() {
			what := fmt.Sprintf(" %.30q %.30q", a, b)
			called(t, "FewestMoves"+what, func() { zeroUnless(t, what)(impl.FewestMoves(a, b)) })
			called(t, "NextMove"+what, func() { zeroUnless(t, what)(impl.NextMove(a, b)) })
			called(t, "WayTo"+what, func() { emptyUnless(t, what)(impl.WayTo(a, b)) })
			called(t, "MiddleOf"+what, func() { blankUnless(t, what)(impl.MiddleOf(a, b)) })
			called(t, "TimesMoved"+what, func() { emptyUnless(t, what)(impl.TimesMoved(a, b)) })
			called(t, "StatesBetween"+what, func() {
				if states, ok := impl.StatesBetween(a, b); !ok && len(states) != 0 {
					t.Errorf("StatesBetween%s: %v", what, states)
				}
			})
		}
	}
}

func TestChapter1AcceptsAllNumbers(t *testing.T) {
	for _, n := range hostileNumbers() {
		what := fmt.Sprint(" ", n)
		called(t, "AllOn"+what, func() { blankUnless(t, what)(impl.AllOn(n)) })
		called(t, "OtherEnd"+what, func() { blankUnless(t, what)(impl.OtherEnd(n)) })
		called(t, "MovesToClear"+what, func() { zeroUnless(t, what)(impl.MovesToClear(n)) })
		for _, number := range hostileNumbers() {
			called(t, "StateOfNumber"+what, func() { blankUnless(t, what)(impl.StateOfNumber(n, number)) })
		}
	}
}

func TestChapter1AcceptsAllListsAndChangesNone(t *testing.T) {
	for _, list := range hostileLists() {
		what := fmt.Sprintf(" %.30s", fmt.Sprint(list))
		untouched(t, "MovesText"+what, list, func(l []int) { blankUnless(t, what)(impl.MovesText(l)) })
		for _, s := range hostileTexts() {
			untouched(t, "PlayMoves"+what, list, func(l []int) { blankUnless(t, what)(impl.PlayMoves(s, l)) })
			untouched(t, "MoveThatFails"+what, list, func(l []int) { zeroUnless(t, what)(impl.MoveThatFails(s, l)) })
		}
	}
}

func TestChapter1ResultsAreNew(t *testing.T) {
	newEachTime(t, "MovesOf", -9, func() []int { l, _ := impl.MovesOf("111"); return l })
	newEachTime(t, "WayTo", -9, func() []int { l, _ := impl.WayTo("111", "000"); return l })
	newEachTime(t, "TimesMoved", -9, func() []int { l, _ := impl.TimesMoved("111", "000"); return l })
	newEachTime(t, "ParseMoves", -9, func() []int { l, _ := impl.ParseMoves("acaba"); return l })
	newEachTime(t, "FarthestFrom", "?", func() []string { l, _, _ := impl.FarthestFrom("111"); return l })
	newEachTime(t, "StatesBetween", "?", func() []string { l, _ := impl.StatesBetween("111", "000"); return l })
}
