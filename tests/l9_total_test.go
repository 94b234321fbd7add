package tests

import (
	"fmt"
	"math"
	"slices"
	"strings"
	"testing"

	"loop.example/g01314/impl"
)

// Promise 11 for chapter 9: every function accepts all arguments without
// panicking and modifies none of them. What fails returns zero values.

func textsForChapter9() []string {
	return append(hostileTexts(), "000", "0000000", "1111111", "00000000", "11111111", "0x", "1\x00", "\xff11", "?1?",
		":", "3:", "0:", "8:", "3", "3:1.1.0,4.2.1", "7:3.127.127", "3:1.1.0,", "3:,", "3:..", "3:5.0.0", "3:2.0.0", "-3:", "03:", "3:+1.1.0", "9223372036854775808:", "3:1.1.-9223372036854775808",
		"3:4.0.1,4.0.1,4.0.1,4.0.1,4.0.1,4.0.1,4.0.1", strings.Repeat("3:", 1<<15), strings.Repeat(".", 62), strings.Repeat(",", 62), "3:"+strings.Repeat("4.0.1,", 1<<14))
}

func numbersForChapter9() []int {
	return append(hostileNumbers(), -2, 4, 5, 6, 9, 10, 126, 127, 128, lastSeed-1, lastSeed, lastSeed+1)
}

func hostileClues() []impl.Clue {
	list := []impl.Clue{{}, {Kind: 4, A: 0, B: 1}, {Kind: 1, A: 1, B: 0}}
	numbers := []int{math.MinInt, math.MinInt + 1, -64, -1, 0, 1, 2, 6, 7, 9, 10, 63, 64, 127, 128, 1 << 32, math.MaxInt}
	for _, kind := range []int{math.MinInt, -1, 0, 1, 2, 3, 4, 5, math.MaxInt} {
		for _, a := range numbers {
			for _, b := range numbers {
				list = append(list, impl.Clue{Kind: kind, A: a, B: b})
			}
		}
	}
	return list
}

func hostilePuzzles() []impl.Puzzle {
	list := toldPuzzles()
	for i, p := range noPuzzles() {
		if i%9 == 0 || len(p.Clues) > 6 {
			list = append(list, p)
		}
	}
	for i, rings := range numbersForChapter9() {
		list = append(list, puzzleOf(rings), puzzleOf(rings, hostileClues()[i]), puzzleOf(rings, hostileClues()...))
	}
	for i, c := range hostileClues() {
		list = append(list, puzzleOf(1+i%7, c))
	}
	return list
}

// untouchedPuzzle gives a call a puzzle with room behind its clues, and checks
// that neither these nor what is behind them is changed.
func untouchedPuzzle(t *testing.T, what string, p impl.Puzzle, call func(impl.Puzzle)) {
	t.Helper()
	room := slices.Concat(p.Clues, []impl.Clue{{Kind: 4, A: 0, B: 1}, {Kind: -7, A: -77, B: -777}, {Kind: 1, A: 1, B: 0}})
	before := slices.Clone(room)
	called(t, what, func() { call(impl.Puzzle{Rings: p.Rings, Clues: room[:len(p.Clues)]}) })
	if !slices.Equal(room, before) {
		t.Errorf("%s changes the puzzle given to it", what)
	}
}

func noPuzzleUnless(t *testing.T, what string) func(impl.Puzzle, bool) {
	return func(p impl.Puzzle, ok bool) {
		t.Helper()
		if !ok && (p.Rings != 0 || len(p.Clues) != 0) {
			t.Errorf("fails with%s:%s", puzzleName(p), what)
		}
	}
}

func TestChapter9AcceptsAllPuzzlesAndChangesNone(t *testing.T) {
	for _, hostile := range hostilePuzzles() {
		what := puzzleName(hostile)
		untouchedPuzzle(t, "IsPuzzle"+what, hostile, func(p impl.Puzzle) { impl.IsPuzzle(p) })
		untouchedPuzzle(t, "Solutions"+what, hostile, func(p impl.Puzzle) { noTextsUnless(t, what)(impl.Solutions(p)) })
		untouchedPuzzle(t, "CountSolutions"+what, hostile, func(p impl.Puzzle) { zeroUnless(t, what)(impl.CountSolutions(p)) })
		untouchedPuzzle(t, "FirstSolution"+what, hostile, func(p impl.Puzzle) { blankUnless(t, what)(impl.FirstSolution(p)) })
		untouchedPuzzle(t, "SureSigns"+what, hostile, func(p impl.Puzzle) { blankUnless(t, what)(impl.SureSigns(p)) })
		untouchedPuzzle(t, "IsSolved"+what, hostile, func(p impl.Puzzle) { falseUnless(t, what)(impl.IsSolved(p)) })
		untouchedPuzzle(t, "NeedlessClues"+what, hostile, func(p impl.Puzzle) { emptyUnless(t, what)(impl.NeedlessClues(p)) })
		untouchedPuzzle(t, "LeftByClues"+what, hostile, func(p impl.Puzzle) { emptyUnless(t, what)(impl.LeftByClues(p)) })
		untouchedPuzzle(t, "BestClue"+what, hostile, func(p impl.Puzzle) { zeroUnless(t, what)(impl.BestClue(p)) })
		untouchedPuzzle(t, "HarderPuzzle"+what, hostile, func(p impl.Puzzle) { noPuzzleUnless(t, what)(impl.HarderPuzzle(p)) })
		untouchedPuzzle(t, "PuzzleText"+what, hostile, func(p impl.Puzzle) { blankUnless(t, what)(impl.PuzzleText(p)) })
		for _, k := range numbersForChapter9() {
			untouchedPuzzle(t, fmt.Sprint("DropClue", what, " ", k), hostile, func(p impl.Puzzle) { noPuzzleUnless(t, what)(impl.DropClue(p, k)) })
		}
		for _, c := range []impl.Clue{{}, {Kind: 4, A: 0, B: 1}, {Kind: 5}, {Kind: math.MinInt, A: math.MaxInt, B: math.MinInt}} {
			untouchedPuzzle(t, fmt.Sprint("AddClue", what, " ", c), hostile, func(p impl.Puzzle) { noPuzzleUnless(t, what)(impl.AddClue(p, c)) })
		}
	}
}

func TestChapter9AcceptsAllClues(t *testing.T) {
	two := puzzleOfText("3:1.1.0,4.2.1")
	for _, c := range hostileClues() {
		what := fmt.Sprint(" ", c)
		for _, rings := range numbersForChapter9() {
			called(t, fmt.Sprint("IsClue ", rings, what), func() { impl.IsClue(rings, c) })
		}
		for _, s := range []string{"", "0", "1", "01", "010", "0000001", "1111111", "00000000", "?", "\xff"} {
			called(t, "DoesFit"+what+" "+s, func() { falseUnless(t, what)(impl.DoesFit(c, s)) })
		}
		untouchedPuzzle(t, "AddClue"+what, two, func(p impl.Puzzle) { noPuzzleUnless(t, what)(impl.AddClue(p, c)) })
	}
}

func TestChapter9AcceptsAllTextsAndNumbers(t *testing.T) {
	for _, s := range slices.Concat(textsForChapter9(), textsForChapter5(), textsForChapter6()) {
		what := fmt.Sprintf(" %.30q", s)
		called(t, "ParsePuzzle"+what, func() { noPuzzleUnless(t, what)(impl.ParsePuzzle(s)) })
		for i, c := range hostileClues() {
			if i%29 < 3 {
				called(t, "DoesFit"+what, func() { falseUnless(t, what)(impl.DoesFit(c, s)) })
			}
		}
		for _, n := range numbersForChapter9() {
			for _, m := range []int{math.MinInt, -1, 0, 1, 6, 7, n} {
				called(t, "MakePuzzle"+what, func() {
					noPuzzleUnless(t, what)(impl.MakePuzzle(s, n, m))
					noPuzzleUnless(t, what)(impl.MakePuzzle(s, m, n))
				})
			}
		}
	}
}

// newCluesEachTime checks that what a caller does with the clues of one result,
// and in the room behind them, changes no other one.
func newCluesEachTime(t *testing.T, what string, call func() (impl.Puzzle, bool)) {
	t.Helper()
	newEachTime(t, what, impl.Clue{Kind: -9}, func() []impl.Clue {
		p, ok := call()
		if !ok {
			t.Errorf("%s fails", what)
		}
		return roomOf(p.Clues)
	})
}

func TestChapter9ResultsAreNew(t *testing.T) {
	p := puzzleOfText("3:1.1.0,4.2.1,0.0.0")
	newCluesEachTime(t, "DropClue 0", func() (impl.Puzzle, bool) { return impl.DropClue(p, 0) })
	newCluesEachTime(t, "DropClue 1", func() (impl.Puzzle, bool) { return impl.DropClue(p, 1) })
	newCluesEachTime(t, "DropClue 2", func() (impl.Puzzle, bool) { return impl.DropClue(p, 2) })
	newCluesEachTime(t, "AddClue", func() (impl.Puzzle, bool) { return impl.AddClue(p, impl.Clue{Kind: 0, A: 1, B: 1}) })
	newCluesEachTime(t, "HarderPuzzle", func() (impl.Puzzle, bool) { return impl.HarderPuzzle(p) })
	newCluesEachTime(t, "HarderPuzzle of one as hard", func() (impl.Puzzle, bool) { return impl.HarderPuzzle(puzzleOfText("3:1.1.0,4.2.1")) })
	newCluesEachTime(t, "MakePuzzle", func() (impl.Puzzle, bool) { return impl.MakePuzzle("010", 6, 9999) })
	newCluesEachTime(t, "ParsePuzzle", func() (impl.Puzzle, bool) { return impl.ParsePuzzle("3:1.1.0,4.2.1") })
	newEachTime(t, "Solutions", "?", func() []string { l, _ := impl.Solutions(puzzleOf(3)); return roomOf(l) })
	newEachTime(t, "Solutions of one", "?", func() []string { l, _ := impl.Solutions(p); return roomOf(l) })
	newEachTime(t, "NeedlessClues", -9, func() []int { l, _ := impl.NeedlessClues(puzzleOfText("3:4.0.1,0.0.1,0.0.1")); return roomOf(l) })
	newEachTime(t, "LeftByClues", -9, func() []int { l, _ := impl.LeftByClues(p); return roomOf(l) })
}

// A puzzle whose clues have room behind them shares none of it with what is
// made of it, also where nothing is taken out of it, or just the last clue is.
func TestPuzzlesMadeOfOthersShareNothing(t *testing.T) {
	for _, text := range []string{"3:1.1.0,4.2.1,0.0.0", "3:1.1.0,4.2.1", "3:3.0.1", "3:4.0.1,3.0.1", "3:3.0.1,4.0.1,4.0.1", "3:1.1.0,4.2.1,4.0.1,4.0.1,4.0.1"} {
		given := puzzleOfText(text)
		room := append(make([]impl.Clue, 0, 9), given.Clues...)
		p := impl.Puzzle{Rings: given.Rings, Clues: room}
		made := []impl.Puzzle{}
		for k := range p.Clues {
			dropped, ok := impl.DropClue(p, k)
			wantPuzzle(t, fmt.Sprint("DropClue ", text, " ", k), dropped, ok, puzzleOf(3, cluesBut(given.Clues, func(i int) bool { return i == k })...))
			made = append(made, dropped)
		}
		for range 2 {
			added, ok := impl.AddClue(p, impl.Clue{Kind: 2, A: 3, B: 1})
			wantPuzzle(t, "AddClue "+text, added, ok, puzzleOf(3, append(slices.Clone(given.Clues), impl.Clue{Kind: 2, A: 3, B: 1})...))
			harder, ok := impl.HarderPuzzle(p)
			wantPuzzle(t, "HarderPuzzle "+text, harder, ok, puzzleOf(3, hiddenRulesOf(3).harder(given.Clues)...))
			made = append(made, added, harder)
		}
		for i, other := range made {
			for j := range roomOf(other.Clues) {
				roomOf(other.Clues)[j] = impl.Clue{Kind: -i, A: -9, B: j}
			}
		}
		wantPuzzle(t, "the puzzle that was given", p, true, given)
		if slices.ContainsFunc(roomOf(room)[len(room):], func(c impl.Clue) bool { return c != impl.Clue{} }) {
			t.Errorf("the room behind the clues of %s is written", text)
		}
		for i, other := range made {
			if slices.ContainsFunc(other.Clues, func(c impl.Clue) bool { return c.Kind != -i }) {
				t.Errorf("two puzzles made of %s share their clues", text)
			}
		}
	}
}

// What lies behind the clues of a puzzle is none of them.
func TestRoomBehindCluesIsNotRead(t *testing.T) {
	rules := hiddenRulesOf(3)
	for _, text := range []string{"3:", "3:1.1.0", "3:1.1.0,4.2.1", "3:0.0.1,0.0.0"} {
		given := puzzleOfText(text)
		room := append(make([]impl.Clue, 0, 9), given.Clues...)
		for i := range roomOf(room)[len(room):] {
			roomOf(room)[len(room)+i] = impl.Clue{Kind: 3, A: i, B: 0}
		}
		checkPuzzle(t, rules, impl.Puzzle{Rings: 3, Clues: room})
	}
}

// No state is kept: what a call returns does not depend on the calls before it.
func TestChapter9KeepsNothing(t *testing.T) {
	p := puzzleOfText("3:1.1.0,4.2.1")
	made, _ := impl.MakePuzzle("0110", 6, 77)
	for _, other := range append(toldPuzzles(), noPuzzles()[:40]...) {
		impl.Solutions(other)
		impl.HarderPuzzle(other)
		impl.MakePuzzle(off(max(other.Rings, 0)%9), 6, 4)
	}
	checkPuzzle(t, hiddenRulesOf(3), p)
	again, ok := impl.MakePuzzle("0110", 6, 77)
	wantPuzzle(t, "MakePuzzle again", again, ok, made)
}
