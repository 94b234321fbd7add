package tests

import (
	"fmt"
	"slices"
	"strings"
	"testing"

	"loop.example/g01314/impl"
)

// Promise 11 for chapter 6: every function accepts all arguments without
// panicking and modifies none of them. What fails returns zero values.

func textsForChapter6() []string {
	return append(hostileTexts(), "22", "02", "000", "222", "000000", "0000000", "0x", "1\x00", "\xff11", "５", "？", "??", "?0", "0?", "?:", ":", ":::", "x:", "1x2:?", "1x2:",
		"2x3:??:??:2?:0?", "3x2:???:1??:01?", "9x9:?", "2x2:?1:1?:", "0x0:", "\xff\xff\xff:?", strings.Repeat(":?", 1<<15), textOfBox(freeBoxOf(6, 5)), textOfBox(freeBoxOf(6, 3)))
}

func hostileBoxes() []impl.Box {
	list := []impl.Box{freeBoxOf(1, 2), freeBoxOf(1, 5), freeBoxOf(3, 3), ringBoxOf(2), ringBoxOf(6), stairBoxOf(2, 3), stairBoxOf(4, 2), lockedBox(3, 3, 1), lockedBox(2, 2, 0)}
	for i, b := range noBoxes() {
		if i < 120 || i%40 == 0 {
			list = append(list, b)
		}
	}
	for _, size := range [][2]int{{1, 2}, {2, 3}, {5, 4}, {6, 3}} {
		list = append(list, impl.Box{Parts: size[0], Sides: size[1], Rules: textsForChapter6()})
	}
	return list
}

// hostileTurns are some parts, sides and By.
func hostileTurns() []int {
	return append(hostileNumbers(), -2, 4, 5, 6)
}

// untouchedBox gives a call a box with room behind its rules, and checks that
// neither what is in them nor what is behind them is changed.
func untouchedBox(t *testing.T, what string, b impl.Box, call func(impl.Box)) {
	t.Helper()
	rules := slices.Concat(b.Rules, []string{"behind", "??", "?"})
	before := slices.Clone(rules)
	called(t, what, func() { call(impl.Box{Parts: b.Parts, Sides: b.Sides, Rules: rules[:len(b.Rules)]}) })
	if !slices.Equal(rules, before) {
		t.Errorf("%s changes the box given to it", what)
	}
}

func zeroBoxUnless(t *testing.T, what string) func(impl.Box, bool) {
	return func(b impl.Box, ok bool) {
		t.Helper()
		if !ok && (b.Parts != 0 || b.Sides != 0 || len(b.Rules) != 0) {
			t.Errorf("fails with %v:%s", b, what)
		}
	}
}

func noTurnsUnless(t *testing.T, what string) func([][]int, bool) {
	return func(list [][]int, ok bool) {
		t.Helper()
		if !ok && len(list) != 0 {
			t.Errorf("fails with %v:%s", list, what)
		}
	}
}

func TestChapter6AcceptsAllBoxesAndChangesNone(t *testing.T) {
	for _, hostile := range hostileBoxes() {
		what := boxName(hostile)
		untouchedBox(t, "IsBox"+what, hostile, func(b impl.Box) { impl.IsBox(b) })
		untouchedBox(t, "CountOpened"+what, hostile, func(b impl.Box) { zeroUnless(t, what)(impl.CountOpened(b)) })
		untouchedBox(t, "TurnsToOpen"+what, hostile, func(b impl.Box) { zeroUnless(t, what)(impl.TurnsToOpen(b)) })
		untouchedBox(t, "BackBox"+what, hostile, func(b impl.Box) { zeroBoxUnless(t, what)(impl.BackBox(b)) })
		untouchedBox(t, "BoxText"+what, hostile, func(b impl.Box) { blankUnless(t, what)(impl.BoxText(b)) })
	}
}

func TestChapter6AcceptsAllRulesAndChangesNoBox(t *testing.T) {
	for _, hostile := range hostileBoxes() {
		what := boxName(hostile)
		for _, part := range hostileTurns() {
			untouchedBox(t, "with a part"+what, hostile, func(b impl.Box) {
				for _, side := range hostileTurns() {
					blankUnless(t, what)(impl.RuleOf(b, part, side))
					zeroBoxUnless(t, what)(impl.ChangeRule(b, part, side, "??"))
				}
			})
		}
		untouchedBox(t, "ChangeRule"+what, hostile, func(b impl.Box) {
			for _, rule := range textsForChapter6() {
				zeroBoxUnless(t, what)(impl.ChangeRule(b, 0, 0, rule))
				zeroBoxUnless(t, what)(impl.ChangeRule(b, 1, 1, rule))
			}
		})
	}
}

func TestChapter6AcceptsAllStatesAndChangesNoBox(t *testing.T) {
	for _, hostile := range hostileBoxes() {
		for _, s := range textsForChapter6() {
			what := boxName(hostile) + fmt.Sprintf(" %.30q", s)
			untouchedBox(t, "with a state"+what, hostile, func(b impl.Box) {
				noTurnsUnless(t, what)(impl.TurnsOf(b, s))
				zeroUnless(t, what)(impl.CountBoxed(b, s))
				far, n, ok := impl.FarthestBoxed(b, s)
				blankUnless(t, what)(far, ok)
				zeroUnless(t, what)(n, ok)
				for _, n := range hostileTurns() {
					for _, m := range []int{-1, 0, 1, n} {
						falseUnless(t, what)(impl.CanTurn(b, s, n, m))
						falseUnless(t, what)(impl.CanTurn(b, s, m, n))
						blankUnless(t, what)(impl.TurnPart(b, s, n, m))
						blankUnless(t, what)(impl.TurnPart(b, s, m, n))
					}
				}
			})
		}
	}
}

func TestChapter6AcceptsAllTwoStatesAndChangesNoBox(t *testing.T) {
	for _, hostile := range hostileBoxes() {
		for _, from := range textsForChapter6() {
			what := boxName(hostile) + fmt.Sprintf(" %.30q", from)
			untouchedBox(t, "with two states"+what, hostile, func(b impl.Box) {
				for _, to := range textsForChapter6() {
					zeroUnless(t, what)(impl.FewestTurns(b, from, to))
					noTurnsUnless(t, what)(impl.FirstTurns(b, from, to))
				}
			})
		}
	}
}

func TestChapter6AcceptsAllTextsAndNumbers(t *testing.T) {
	for _, s := range append(textsForChapter6(), textsForChapter5()...) {
		what := fmt.Sprintf(" %.30q", s)
		called(t, "ParseBox"+what, func() { zeroBoxUnless(t, what)(impl.ParseBox(s)) })
	}
	for _, parts := range hostileTurns() {
		what := fmt.Sprint(" ", parts)
		called(t, "RingBox"+what, func() { zeroBoxUnless(t, what)(impl.RingBox(parts)) })
		for _, sides := range hostileTurns() {
			what := fmt.Sprint(" ", parts, " ", sides)
			called(t, "FreeBox"+what, func() { zeroBoxUnless(t, what)(impl.FreeBox(parts, sides)) })
			called(t, "StairBox"+what, func() { zeroBoxUnless(t, what)(impl.StairBox(parts, sides)) })
		}
	}
}

func TestChapter6ResultsAreNew(t *testing.T) {
	b := boxOfText("2x3:??:??:2?:0?")
	newRulesEachTime(t, "FreeBox", func() (impl.Box, bool) { return impl.FreeBox(6, 3) })
	newRulesEachTime(t, "RingBox", func() (impl.Box, bool) { return impl.RingBox(3) })
	newRulesEachTime(t, "StairBox", func() (impl.Box, bool) { return impl.StairBox(2, 3) })
	newRulesEachTime(t, "BackBox", func() (impl.Box, bool) { return impl.BackBox(b) })
	newRulesEachTime(t, "ChangeRule", func() (impl.Box, bool) { return impl.ChangeRule(b, 1, 1, "??") })
	newRulesEachTime(t, "ChangeRule to the same", func() (impl.Box, bool) { return impl.ChangeRule(b, 1, 1, "0?") })
	newRulesEachTime(t, "ParseBox", func() (impl.Box, bool) { return impl.ParseBox("2x3:??:??:2?:0?") })
	newTurnsEachTime(t, "TurnsOf", func() ([][]int, bool) { return impl.TurnsOf(b, "02") })
	newTurnsEachTime(t, "TurnsOf a free box", func() ([][]int, bool) { return impl.TurnsOf(freeBoxOf(4, 5), "1234") })
	newTurnsEachTime(t, "FirstTurns", func() ([][]int, bool) { return impl.FirstTurns(b, "22", "00") })
}

// newRulesEachTime checks that what a caller does with the rules of one result,
// and in the room behind them, changes no other one.
func newRulesEachTime(t *testing.T, what string, call func() (impl.Box, bool)) {
	t.Helper()
	newEachTime(t, what, "x", func() []string {
		b, ok := call()
		if !ok {
			t.Errorf("%s fails", what)
		}
		return roomOf(b.Rules)
	})
}

// newTurnsEachTime checks that what a caller does with one turn, and in the
// room behind it, changes neither another turn of the list nor another list.
func newTurnsEachTime(t *testing.T, what string, call func() ([][]int, bool)) {
	t.Helper()
	list, ok := call()
	before := make([][]int, len(list))
	for i, turn := range list {
		before[i] = slices.Clone(turn)
	}
	for i := range list {
		clear(roomOf(list[i]))
		if !slices.EqualFunc(list[i+1:], before[i+1:], slices.Equal) {
			t.Fatalf("%s: turns of %v share memory", what, before)
		}
	}
	again, fine := call()
	if !ok || !fine || len(list) == 0 || !slices.EqualFunc(again, before, slices.Equal) {
		t.Errorf("%s: first %v, %v, then %v, %v", what, before, ok, again, fine)
	}
}

// A box whose rules have room behind them shares none of it with what is made of it.
func TestBoxesMadeOfOthersShareNothing(t *testing.T) {
	rules := append(make([]string, 0, 9), "??", "??", "2?", "0?")
	b := impl.Box{Parts: 2, Sides: 3, Rules: rules}
	same, ok := impl.ChangeRule(b, 1, 0, "2?")
	wantBox(t, "ChangeRule to the same", same, ok, b)
	back, ok := impl.BackBox(b)
	wantBox(t, "BackBox", back, ok, b)
	clear(roomOf(same.Rules))
	clear(roomOf(back.Rules))
	wantBox(t, "the box that was given", b, true, boxOfText("2x3:??:??:2?:0?"))
	if slices.ContainsFunc(roomOf(rules)[4:], func(rule string) bool { return rule != "" }) {
		t.Error("the room behind the rules is written")
	}
}
