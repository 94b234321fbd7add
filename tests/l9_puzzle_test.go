package tests

import (
	"fmt"
	"math"
	"math/rand"
	"slices"
	"strconv"
	"strings"
	"testing"

	"loop.example/g01314/impl"
)

// Promise 9: solutions fit all clues, and harder puzzles are solved by the same state.

const lastSeed = 9999

var noSeeds = []int{math.MinInt, -10000, -9999, -2, -1, lastSeed + 1, lastSeed + 2, 10007, 20000, 1 << 32, math.MaxInt}

var noClueCounts = []int{math.MinInt, -64, -7, -2, -1, 7, 8, 12, 63, 64, 1 << 32, math.MaxInt}

var noHiddenCounts = []int{math.MinInt, math.MinInt + 1, -64, -7, -2, -1, 0, 8, 9, 10, 20, 21, 63, 64, 65, 1 << 32, math.MaxInt}

func puzzleOf(rings int, clues ...impl.Clue) impl.Puzzle {
	return impl.Puzzle{Rings: rings, Clues: clues}
}

// puzzleOfText reads a PuzzleText by itself.
func puzzleOfText(s string) impl.Puzzle {
	parts := strings.Split(s, ":")
	p := puzzleOf(numberOfText(parts[0]))
	for _, text := range strings.FieldsFunc(parts[1], func(sign rune) bool { return sign == ',' }) {
		numbers := strings.Split(text, ".")
		p.Clues = append(p.Clues, impl.Clue{Kind: numberOfText(numbers[0]), A: numberOfText(numbers[1]), B: numberOfText(numbers[2])})
	}
	return p
}

func numberOfText(s string) int {
	n, err := strconv.Atoi(s)
	if err != nil {
		panic(err)
	}
	return n
}

// textOfPuzzle is what PuzzleText is to return.
func textOfPuzzle(p impl.Puzzle) string {
	text := fmt.Sprint(p.Rings, ":")
	for k, c := range p.Clues {
		if k > 0 {
			text += ","
		}
		text += fmt.Sprintf("%d.%d.%d", c.Kind, c.A, c.B)
	}
	return text
}

// puzzleName tells of a puzzle, of which there may be very many clues, by the first few.
func puzzleName(p impl.Puzzle) string {
	return " " + textOfPuzzle(puzzleOf(p.Rings, p.Clues[:min(len(p.Clues), 8)]...))
}

func wantPuzzle(t *testing.T, what string, p impl.Puzzle, ok bool, wanted impl.Puzzle) {
	t.Helper()
	if !ok || p.Rings != wanted.Rings || !slices.Equal(p.Clues, wanted.Clues) {
		t.Errorf("%s: got%s, %v, want%s, true", what, puzzleName(p), ok, puzzleName(wanted))
	}
}

func wantNoPuzzle(t *testing.T, what string, p impl.Puzzle, ok bool) {
	t.Helper()
	if ok || p.Rings != 0 || len(p.Clues) != 0 {
		t.Errorf("%s: got%s, %v, want a failure", what, puzzleName(p), ok)
	}
}

// mixedClue returns one of the clues of a kind, or, if it is to be fit by a state, one that this fits.
func mixedClue(random *rand.Rand, rules hiddenRules, clues []impl.Clue, s string) impl.Clue {
	kind := random.Intn(5)
	for {
		c := clues[random.Intn(len(clues))]
		if kind != 3 && c.Kind == 3 {
			// Of these there are more than of all others.
			c = clues[random.Intn(len(clues)-128*len(rules.line))]
		}
		if c.Kind == kind && (s == "" || rules.fits(c, s)) {
			return c
		}
	}
}

// mixedPuzzles are some of each number of rings and of clues, the same ones in
// each run. Most of them are fit by a state.
func mixedPuzzles(rules hiddenRules, count int) []impl.Puzzle {
	random := rand.New(rand.NewSource(int64(9 * rules.rings)))
	clues := rules.clues(127)
	var list []impl.Puzzle
	for i := range count {
		for length := range 7 {
			s := ""
			if i%3 > 0 {
				s = rules.line[random.Intn(len(rules.line))]
			}
			p := puzzleOf(rules.rings)
			for len(p.Clues) < length {
				p.Clues = append(p.Clues, mixedClue(random, rules, clues, s))
			}
			if i%7 == 1 && length > 1 {
				p.Clues[length-1] = p.Clues[random.Intn(length-1)]
			}
			list = append(list, p)
		}
	}
	return list
}

// toldPuzzles have what the document names: few and many solutions, clues of all
// sorts, the same ones twice, and needless ones.
func toldPuzzles() []impl.Puzzle {
	var list []impl.Puzzle
	for _, s := range []string{
		"1:", "2:", "3:", "7:", "1:0.0.0", "1:0.0.1", "1:1.0.0", "1:1.1.0", "1:2.2.0", "1:2.2.1", "1:2.9.8", "1:3.0.0", "1:3.1.0", "1:3.0.127", "1:4.0.0", "1:4.0.1",
		"3:1.1.0,4.2.1", "3:3.0.1", "3:4.0.1", "3:4.0.0", "3:0.0.1,0.0.1", "3:3.7.0,3.7.0", "3:0.0.1,0.0.0", "1:0.0.1,1.1.0", "1:1.1.0,0.0.1", "2:0.0.1,2.4.1,0.1.0",
		"3:4.0.1,4.0.1,4.0.1,4.0.1,4.0.1,4.0.1", "3:4.0.0,4.0.0,3.0.9,4.0.1", "7:3.127.0,3.127.0,3.127.0,3.127.0,3.127.0,3.127.0", "7:3.0.127,0.6.1,1.1.0,4.6.0,2.9.1,0.0.0",
		"7:0.0.0,0.1.0,0.2.0,0.3.0,0.4.0,0.5.0", "7:2.2.1,2.3.1,2.4.3,2.5.1,2.6.1,2.7.3", "7:4.6.1", "7:4.6.0", "7:1.7.0", "7:1.0.0", "7:2.9.0,2.8.0", "4:1.2.0,4.1.1,0.3.1,2.3.0",
	} {
		list = append(list, puzzleOfText(s))
	}
	return list
}

func TestChapter9LimitsAsTold(t *testing.T) {
	if impl.MaxHidden != 7 || impl.MaxClues != 6 {
		t.Error("limits", impl.MaxHidden, impl.MaxClues)
	}
}

func TestIsClueAgainstRules(t *testing.T) {
	for _, rules := range allHiddenRules() {
		are := map[impl.Clue]bool{}
		for _, c := range rules.clues(127) {
			are[c] = true
		}
		for kind := -2; kind <= 6; kind++ {
			for a := -3; a <= 131; a++ {
				for b := -3; b <= 131; b++ {
					c := impl.Clue{Kind: kind, A: a, B: b}
					if impl.IsClue(rules.rings, c) != are[c] {
						t.Errorf("IsClue %d %v is %v", rules.rings, c, !are[c])
					}
				}
			}
		}
	}
}

// noClues are what is no clue of so many rings: each number alone is too small or too great.
func noClues(rings int) []impl.Clue {
	most := 1<<rings - 1
	list := []impl.Clue{
		{Kind: -1, A: 0, B: 0}, {Kind: -1, A: 2, B: 1}, {Kind: 5, A: 0, B: 0}, {Kind: 5, A: 2, B: 1}, {Kind: 6, A: 0, B: 1}, {Kind: -4, A: 0, B: 1}, {Kind: 1 << 32, A: 0, B: 0},
		{Kind: 0, A: -1, B: 0}, {Kind: 0, A: rings, B: 0}, {Kind: 0, A: rings, B: 1}, {Kind: 0, A: 0, B: -1}, {Kind: 0, A: 0, B: 2}, {Kind: 0, A: rings - 1, B: 2}, {Kind: 0, A: 1 << 32, B: 1},
		{Kind: 1, A: -1, B: 0}, {Kind: 1, A: rings + 1, B: 0}, {Kind: 1, A: 0, B: 1}, {Kind: 1, A: 0, B: -1}, {Kind: 1, A: rings, B: 1}, {Kind: 1, A: 1, B: 1 << 32},
		{Kind: 2, A: 1, B: 0}, {Kind: 2, A: 0, B: 0}, {Kind: 2, A: -2, B: 0}, {Kind: 2, A: 10, B: 0}, {Kind: 2, A: 10, B: 9}, {Kind: 2, A: 2, B: -1}, {Kind: 2, A: 2, B: 2}, {Kind: 2, A: 9, B: 9}, {Kind: 2, A: 9, B: -1},
		{Kind: 3, A: -1, B: 0}, {Kind: 3, A: most + 1, B: 0}, {Kind: 3, A: 128, B: 0}, {Kind: 3, A: 0, B: -1}, {Kind: 3, A: 0, B: 128}, {Kind: 3, A: most, B: -1}, {Kind: 3, A: most, B: 128},
		{Kind: 4, A: -1, B: 0}, {Kind: 4, A: rings, B: 0}, {Kind: 4, A: rings, B: 1}, {Kind: 4, A: 0, B: -1}, {Kind: 4, A: 0, B: 2}, {Kind: 4, A: rings - 1, B: 2}, {Kind: 4, A: 64, B: 1},
	}
	for _, n := range []int{math.MinInt, math.MinInt + 1, -1000, 1000, math.MaxInt - 1, math.MaxInt} {
		list = append(list, impl.Clue{Kind: n, A: 0, B: 0}, impl.Clue{Kind: n, A: n, B: n})
		for kind := range 5 {
			list = append(list, impl.Clue{Kind: kind, A: n, B: 0}, impl.Clue{Kind: kind, A: 2, B: n}, impl.Clue{Kind: kind, A: n, B: n})
		}
	}
	return list
}

func TestCluesThatAreNone(t *testing.T) {
	for rings := 1; rings <= 7; rings++ {
		for _, c := range noClues(rings) {
			if impl.IsClue(rings, c) {
				t.Errorf("IsClue %d %v is true", rings, c)
			}
			for _, s := range []string{off(rings), strings.Repeat("1", rings)} {
				fits, ok := impl.DoesFit(c, s)
				wantFail(t, fmt.Sprint("DoesFit ", c, " ", s), fits, ok)
			}
		}
	}
}

// leastAndGreatestClues have the least and the greatest A and B of each kind.
func leastAndGreatestClues(rings int) []impl.Clue {
	list := []impl.Clue{{Kind: 1, A: 0, B: 0}, {Kind: 1, A: rings, B: 0}, {Kind: 2, A: 2, B: 0}, {Kind: 2, A: 2, B: 1}, {Kind: 2, A: 9, B: 0}, {Kind: 2, A: 9, B: 8}}
	for _, b := range []int{0, 1} {
		list = append(list, impl.Clue{Kind: 0, A: 0, B: b}, impl.Clue{Kind: 0, A: rings - 1, B: b}, impl.Clue{Kind: 4, A: 0, B: b}, impl.Clue{Kind: 4, A: rings - 1, B: b})
	}
	for _, number := range []int{0, 1<<rings - 1} {
		list = append(list, impl.Clue{Kind: 3, A: number, B: 0}, impl.Clue{Kind: 3, A: number, B: 127})
	}
	return list
}

func TestLeastAndGreatestClues(t *testing.T) {
	for _, rules := range allHiddenRules() {
		for _, c := range leastAndGreatestClues(rules.rings) {
			if !impl.IsClue(rules.rings, c) {
				t.Errorf("IsClue %d %v is false", rules.rings, c)
			}
			checkPuzzle(t, rules, puzzleOf(rules.rings, c))
		}
	}
}

func TestRingsOfWhichThereIsNoPuzzle(t *testing.T) {
	for _, rings := range noHiddenCounts {
		for _, c := range slices.Concat(hiddenRulesOf(3).clues(8), leastAndGreatestClues(1), leastAndGreatestClues(7), leastAndGreatestClues(8), noClues(7)) {
			if impl.IsClue(rings, c) {
				t.Errorf("IsClue %d %v is true", rings, c)
			}
		}
		for _, clues := range [][]impl.Clue{nil, {{Kind: 4, A: 0, B: 1}}, {{Kind: 1, A: 0, B: 0}}, {{Kind: 2, A: 2, B: 0}}} {
			failsForPuzzle(t, puzzleOf(rings, clues...))
		}
	}
}

func TestDoesFitAgainstRules(t *testing.T) {
	for _, rules := range allHiddenRules() {
		for _, c := range rules.clues(127) {
			for i, s := range rules.line {
				if c.Kind == 3 && rules.rings > 5 && !rules.fits(c, s) && (i+c.B)%13 > 0 {
					continue
				}
				fits, ok := impl.DoesFit(c, s)
				if !ok || fits != rules.fits(c, s) {
					t.Errorf("DoesFit %v %s: got %v, %v, want %v, true", c, s, fits, ok, rules.fits(c, s))
				}
			}
		}
	}
}

func TestTextsThatAreNoHiddenStates(t *testing.T) {
	always := impl.Clue{Kind: 4, A: 0, B: 1}
	for _, s := range []string{
		"", "2", "x", "?", " ", "-", "\x00", "\xff", "１", "01x", "0?1", "01 ", " 01", "01\n", "0,1", "0/1", "002", "200", "012", off(8), strings.Repeat("1", 8), off(9), off(20), off(21), off(64), off(1 << 16),
		"111111x", "x111111", "111?111", "11111111", "0000001 ", "\x000\x00", "０", "０１",
	} {
		what := fmt.Sprintf(" %.20q", s)
		fits, ok := impl.DoesFit(always, s)
		wantFail(t, "DoesFit"+what, fits, ok)
		for _, clues := range []int{0, 1, 6} {
			for _, seed := range []int{0, 1, lastSeed} {
				p, ok := impl.MakePuzzle(s, clues, seed)
				wantNoPuzzle(t, fmt.Sprint("MakePuzzle", what, " ", clues, " ", seed), p, ok)
			}
		}
	}
}

// A clue can be one of some numbers of rings, and none of others.
func TestCluesOfSomeNumbersOfRings(t *testing.T) {
	for _, c := range []struct {
		clue  impl.Clue
		least int
	}{
		{impl.Clue{Kind: 0, A: 0, B: 1}, 1}, {impl.Clue{Kind: 0, A: 1, B: 1}, 2}, {impl.Clue{Kind: 0, A: 6, B: 0}, 7}, {impl.Clue{Kind: 0, A: 7, B: 0}, 8},
		{impl.Clue{Kind: 1, A: 0, B: 0}, 1}, {impl.Clue{Kind: 1, A: 1, B: 0}, 1}, {impl.Clue{Kind: 1, A: 2, B: 0}, 2}, {impl.Clue{Kind: 1, A: 7, B: 0}, 7}, {impl.Clue{Kind: 1, A: 8, B: 0}, 8},
		{impl.Clue{Kind: 2, A: 9, B: 8}, 1}, {impl.Clue{Kind: 3, A: 1, B: 127}, 1}, {impl.Clue{Kind: 3, A: 2, B: 0}, 2}, {impl.Clue{Kind: 3, A: 63, B: 0}, 6}, {impl.Clue{Kind: 3, A: 64, B: 0}, 7},
		{impl.Clue{Kind: 3, A: 127, B: 127}, 7}, {impl.Clue{Kind: 3, A: 128, B: 0}, 8}, {impl.Clue{Kind: 4, A: 0, B: 0}, 1}, {impl.Clue{Kind: 4, A: 3, B: 1}, 4}, {impl.Clue{Kind: 4, A: 7, B: 1}, 8},
	} {
		for rings := 1; rings <= 7; rings++ {
			if impl.IsClue(rings, c.clue) != (rings >= c.least) {
				t.Errorf("IsClue %d %v is %v", rings, c.clue, rings < c.least)
			}
			fits, ok := impl.DoesFit(c.clue, off(rings))
			if ok != (rings >= c.least) || !ok && fits {
				t.Errorf("DoesFit %v %s: got %v, %v", c.clue, off(rings), fits, ok)
			}
			more, ok := impl.AddClue(puzzleOf(rings), c.clue)
			if rings >= c.least {
				wantPuzzle(t, fmt.Sprint("AddClue ", rings, " ", c.clue), more, ok, puzzleOf(rings, c.clue))
			} else {
				wantNoPuzzle(t, fmt.Sprint("AddClue ", rings, " ", c.clue), more, ok)
			}
		}
	}
}

// checkPuzzle compares all that is told of a puzzle with the states that the rules leave.
func checkPuzzle(t *testing.T, rules hiddenRules, p impl.Puzzle) {
	t.Helper()
	what := puzzleName(p)
	if !impl.IsPuzzle(p) {
		t.Errorf("IsPuzzle%s is false", what)
	}
	solutions := rules.solutions(p.Clues)
	list, ok := impl.Solutions(p)
	wantList(t, "Solutions"+what, list, ok, solutions)
	n, ok := impl.CountSolutions(p)
	want(t, "CountSolutions"+what, n, ok, len(solutions))
	first, ok := impl.FirstSolution(p)
	sure, fine := impl.SureSigns(p)
	if len(solutions) > 0 {
		want(t, "FirstSolution"+what, first, ok, solutions[0])
		want(t, "SureSigns"+what, sure, fine, sureOf(solutions))
	} else {
		wantFail(t, "FirstSolution"+what, first, ok)
		wantFail(t, "SureSigns"+what, sure, fine)
	}
	solved, ok := impl.IsSolved(p)
	want(t, "IsSolved"+what, solved, ok, len(solutions) == 1)
	harder, ok := impl.HarderPuzzle(p)
	if len(solutions) == 1 {
		wantPuzzle(t, "HarderPuzzle"+what, harder, ok, puzzleOf(rules.rings, rules.harder(p.Clues)...))
		list, ok := impl.Solutions(harder)
		wantList(t, "Solutions of HarderPuzzle"+what, list, ok, solutions)
		needless, ok := impl.NeedlessClues(harder)
		wantList(t, "NeedlessClues of HarderPuzzle"+what, needless, ok, nil)
	} else {
		wantNoPuzzle(t, "HarderPuzzle"+what, harder, ok)
	}
	checkClues(t, rules, p)
}

// checkClues compares what is told of the clues of a puzzle, and of those that are dropped or added.
func checkClues(t *testing.T, rules hiddenRules, p impl.Puzzle) {
	t.Helper()
	what := puzzleName(p)
	needless, ok := impl.NeedlessClues(p)
	wantList(t, "NeedlessClues"+what, needless, ok, rules.needless(p.Clues))
	var left, alone []int
	for k := range len(p.Clues) + 1 {
		left = append(left, len(rules.solutions(p.Clues[:k])))
	}
	counts, ok := impl.LeftByClues(p)
	wantList(t, "LeftByClues"+what, counts, ok, left)
	for k, c := range p.Clues {
		alone = append(alone, len(rules.solutions([]impl.Clue{c})))
		dropped, ok := impl.DropClue(p, k)
		wantPuzzle(t, fmt.Sprint("DropClue", what, " ", k), dropped, ok, puzzleOf(p.Rings, cluesBut(p.Clues, func(i int) bool { return i == k })...))
		more, ok := impl.AddClue(dropped, c)
		wantPuzzle(t, fmt.Sprint("AddClue", puzzleName(dropped), " ", c), more, ok, puzzleOf(p.Rings, append(dropped.Clues, c)...))
	}
	best, ok := impl.BestClue(p)
	if len(p.Clues) == 0 {
		wantFail(t, "BestClue"+what, best, ok)
	} else {
		want(t, "BestClue"+what, best, ok, slices.Index(alone, slices.Min(alone)))
	}
	text, ok := impl.PuzzleText(p)
	want(t, "PuzzleText"+what, text, ok, textOfPuzzle(p))
	parsed, ok := impl.ParsePuzzle(text)
	wantPuzzle(t, "ParsePuzzle"+what, parsed, ok, p)
}

func TestPuzzlesAgainstRules(t *testing.T) {
	all := allHiddenRules()
	for _, p := range toldPuzzles() {
		checkPuzzle(t, all[p.Rings-1], p)
	}
	for _, rules := range all {
		for _, p := range mixedPuzzles(rules, 60) {
			checkPuzzle(t, rules, p)
		}
	}
}

func TestAllPuzzlesOfOneClue(t *testing.T) {
	for _, rules := range allHiddenRules() {
		for i, c := range rules.clues(127) {
			if c.Kind != 3 || rules.rings < 4 || i%23 == 0 {
				checkPuzzle(t, rules, puzzleOf(rules.rings, c))
			}
		}
	}
}

func TestAllPuzzlesOfTwoClues(t *testing.T) {
	for rings := 1; rings <= 2; rings++ {
		rules := hiddenRulesOf(rings)
		clues := rules.clues(3)
		for _, c := range clues {
			for _, d := range clues {
				checkPuzzle(t, rules, puzzleOf(rings, c, d))
			}
		}
	}
}

func TestPuzzlesThatAreSampled(t *testing.T) {
	// Without these the samples would leave out what the document names.
	none, one, many, shared := 0, 0, 0, 0
	for _, rules := range allHiddenRules() {
		for _, p := range mixedPuzzles(rules, 60) {
			switch solutions := rules.solutions(p.Clues); {
			case len(solutions) == 0:
				none++
			case len(solutions) == 1:
				one++
				if needless := rules.needless(p.Clues); len(needless) > len(p.Clues)-len(rules.harder(p.Clues)) {
					shared++
				}
			default:
				many++
			}
		}
	}
	if none < 300 || one < 300 || many < 300 || shared < 100 {
		t.Error("the samples:", none, one, many, shared)
	}
}

func TestPuzzlesWithoutClues(t *testing.T) {
	for _, rules := range allHiddenRules() {
		for _, clues := range [][]impl.Clue{nil, {}} {
			p := impl.Puzzle{Rings: rules.rings, Clues: clues}
			what := puzzleName(p)
			checkPuzzle(t, rules, p)
			list, ok := impl.Solutions(p)
			wantList(t, "Solutions"+what, list, ok, rules.line)
			sure, ok := impl.SureSigns(p)
			want(t, "SureSigns"+what, sure, ok, strings.Repeat("?", rules.rings))
			counts, ok := impl.LeftByClues(p)
			wantList(t, "LeftByClues"+what, counts, ok, []int{1 << rules.rings})
			solved, ok := impl.IsSolved(p)
			want(t, "IsSolved"+what, solved, ok, false)
			for _, k := range noRings(0) {
				dropped, ok := impl.DropClue(p, k)
				wantNoPuzzle(t, fmt.Sprint("DropClue", what, " ", k), dropped, ok)
			}
		}
	}
}

func TestSolutionsOfToldPuzzles(t *testing.T) {
	for text, wanted := range map[string]string{
		"1:": "0 1", "2:": "00 10 11 01", "3:": "000 100 110 010 011 111 101 001",
		"1:0.0.0": "0", "1:0.0.1": "1", "1:1.0.0": "0", "1:2.2.1": "1", "1:2.9.0": "0", "1:2.9.8": "", "1:3.1.1": "0", "1:3.0.127": "", "1:4.0.1": "0 1", "1:4.0.0": "",
		"2:1.1.0": "10 01", "2:4.1.1": "10 11", "2:4.1.0": "00 01", "2:3.2.1": "10 01", "2:3.2.2": "00", "2:2.2.0": "00 11", "2:2.3.0": "00 01", "2:0.1.1": "11 01",
		"3:1.1.0,4.2.1": "010", "3:3.0.1": "100", "3:3.4.3": "100 001", "3:4.2.1": "010 011", "3:4.2.0": "000 100 110 111 101 001", "3:2.4.3": "010 001", "3:0.0.1,0.0.0": "",
		"7:3.0.127": "0000001", "7:3.127.127": "0000000", "7:1.7.0": "1111111", "7:4.6.1": "0000010 0000011",
	} {
		states := strings.Fields(wanted)
		list, ok := impl.Solutions(puzzleOfText(text))
		wantList(t, "Solutions "+text, list, ok, states)
		n, ok := impl.CountSolutions(puzzleOfText(text))
		want(t, "CountSolutions "+text, n, ok, len(states))
	}
}

func TestSureSigns(t *testing.T) {
	for text, sure := range map[string]string{
		"1:": "?", "1:0.0.1": "1", "2:1.1.0": "??", "2:4.1.1": "1?", "2:4.1.0": "0?", "3:4.2.1": "01?", "3:0.2.0": "??0", "3:0.2.0,0.0.1": "1?0", "3:1.2.0,0.1.1": "?1?",
		"3:3.4.3": "?0?", "3:3.0.1": "100", "7:4.6.1": "000001?", "7:3.0.127": "0000001", "7:": "???????",
	} {
		got, ok := impl.SureSigns(puzzleOfText(text))
		want(t, "SureSigns "+text, got, ok, sure)
	}
	for _, text := range []string{"1:4.0.0", "1:3.0.127", "3:0.0.1,0.0.0", "7:1.0.0,1.7.0"} {
		got, ok := impl.SureSigns(puzzleOfText(text))
		wantFail(t, "SureSigns "+text, got, ok)
		first, ok := impl.FirstSolution(puzzleOfText(text))
		wantFail(t, "FirstSolution "+text, first, ok)
	}
}

func TestNeedlessAndBestClues(t *testing.T) {
	for _, c := range []struct {
		text     string
		needless []int
		left     []int
		best     int
	}{
		{"3:4.0.1", []int{0}, []int{8, 8}, 0},
		{"3:0.0.1", nil, []int{8, 4}, 0},
		{"3:0.0.1,0.0.1", []int{0, 1}, []int{8, 4, 4}, 0},
		{"3:4.0.1,0.0.1,0.0.1", []int{0, 1, 2}, []int{8, 8, 4, 4}, 1},
		{"3:0.0.1,0.1.1", nil, []int{8, 4, 2}, 0},
		{"3:0.0.1,1.3.0,0.1.1", []int{0, 2}, []int{8, 4, 1, 1}, 1},
		{"3:1.1.0,4.2.1", nil, []int{8, 3, 1}, 1},
		{"3:0.0.1,0.0.0", nil, []int{8, 4, 0}, 0},
		{"3:0.0.1,0.0.0,0.0.1", []int{0, 2}, []int{8, 4, 0, 0}, 0},
		{"3:4.0.1,4.0.0,3.0.9", []int{0, 1, 2}, []int{8, 8, 0, 0}, 1},
		{"2:0.0.1,2.4.1,0.1.0", []int{0, 1, 2}, []int{4, 2, 1, 1}, 1},
		{"7:2.2.0,2.4.0,2.8.0", []int{0, 1}, []int{128, 64, 32, 16}, 2},
		{"7:2.8.0,2.4.0,2.2.0", []int{1, 2}, []int{128, 16, 16, 16}, 0},
	} {
		p := puzzleOfText(c.text)
		needless, ok := impl.NeedlessClues(p)
		wantList(t, "NeedlessClues "+c.text, needless, ok, c.needless)
		left, ok := impl.LeftByClues(p)
		wantList(t, "LeftByClues "+c.text, left, ok, c.left)
		best, ok := impl.BestClue(p)
		want(t, "BestClue "+c.text, best, ok, c.best)
	}
}

// From the first clue on each one is taken out if the puzzle is solved still:
// of clues of which each one alone is needless but not both, the first one.
func TestHarderPuzzles(t *testing.T) {
	for text, harder := range map[string]string{
		"1:0.0.1": "1:0.0.1", "1:0.0.1,0.0.1": "1:0.0.1", "1:0.0.1,1.1.0": "1:1.1.0", "1:1.1.0,0.0.1": "1:0.0.1", "1:4.0.1,0.0.1": "1:0.0.1", "1:0.0.1,4.0.1": "1:0.0.1",
		"2:0.0.1,2.4.1,0.1.0": "2:2.4.1", "2:2.4.1,0.0.1,0.1.0": "2:0.0.1,0.1.0", "2:0.0.1,0.1.0,2.4.1": "2:2.4.1", "3:1.1.0,4.2.1": "3:1.1.0,4.2.1",
		"3:0.0.1,1.3.0,0.1.1": "3:1.3.0", "3:1.3.0,0.0.1,0.1.1,0.2.1": "3:0.0.1,0.1.1,0.2.1", "3:0.0.1,0.1.1,1.3.0,0.2.1": "3:1.3.0", "3:1.3.0,0.0.1,0.1.1": "3:1.3.0",
		"3:3.0.1,3.0.1,3.0.1,3.0.1,3.0.1,3.0.1": "3:3.0.1", "7:3.0.127,0.6.1,1.1.0,4.6.0,2.9.1,0.0.0": "7:1.1.0,2.9.1,0.0.0", "7:0.6.1,1.1.0,3.0.127": "7:3.0.127",
	} {
		p, ok := impl.HarderPuzzle(puzzleOfText(text))
		wantPuzzle(t, "HarderPuzzle "+text, p, ok, puzzleOfText(harder))
	}
	for _, text := range []string{"1:", "7:", "1:4.0.1", "1:4.0.0", "1:3.0.2", "2:1.1.0", "3:0.0.1,0.0.0", "3:4.2.1", "7:2.8.0,2.9.0", "7:3.0.127,1.0.0"} {
		p, ok := impl.HarderPuzzle(puzzleOfText(text))
		wantNoPuzzle(t, "HarderPuzzle "+text, p, ok)
		solved, ok := impl.IsSolved(puzzleOfText(text))
		want(t, "IsSolved "+text, solved, ok, false)
	}
}

func TestFirstAndLastClueDropped(t *testing.T) {
	p := puzzleOfText("3:1.1.0,4.2.1,0.0.0,0.1.1,2.2.1,3.0.3")
	for k, text := range []string{
		"3:4.2.1,0.0.0,0.1.1,2.2.1,3.0.3", "3:1.1.0,0.0.0,0.1.1,2.2.1,3.0.3", "3:1.1.0,4.2.1,0.1.1,2.2.1,3.0.3",
		"3:1.1.0,4.2.1,0.0.0,2.2.1,3.0.3", "3:1.1.0,4.2.1,0.0.0,0.1.1,3.0.3", "3:1.1.0,4.2.1,0.0.0,0.1.1,2.2.1",
	} {
		dropped, ok := impl.DropClue(p, k)
		wantPuzzle(t, fmt.Sprint("DropClue ", k), dropped, ok, puzzleOfText(text))
	}
	only, ok := impl.DropClue(puzzleOfText("7:4.0.1"), 0)
	wantPuzzle(t, "DropClue of the only one", only, ok, puzzleOf(7))
}

func TestCluesThatThereAreNot(t *testing.T) {
	for _, p := range append(toldPuzzles(), mixedPuzzles(hiddenRulesOf(4), 5)...) {
		for _, k := range noRings(len(p.Clues)) {
			dropped, ok := impl.DropClue(p, k)
			wantNoPuzzle(t, fmt.Sprint("DropClue", puzzleName(p), " ", k), dropped, ok)
		}
	}
}

func TestMostCluesAndOneMore(t *testing.T) {
	for _, rules := range allHiddenRules() {
		p := puzzleOf(rules.rings)
		for i, c := range leastAndGreatestClues(rules.rings)[:7] {
			more, ok := impl.AddClue(p, c)
			if i == 6 {
				wantNoPuzzle(t, fmt.Sprint("AddClue", puzzleName(p), " ", c), more, ok)
				failsForPuzzle(t, puzzleOf(p.Rings, append(slices.Clone(p.Clues), c)...))
				break
			}
			wantPuzzle(t, fmt.Sprint("AddClue", puzzleName(p), " ", c), more, ok, puzzleOf(p.Rings, append(slices.Clone(p.Clues), c)...))
			p = more
			checkPuzzle(t, rules, p)
		}
	}
}

func TestCluesThatCannotBeAdded(t *testing.T) {
	for rings := 1; rings <= 7; rings++ {
		for _, p := range []impl.Puzzle{puzzleOf(rings), puzzleOf(rings, impl.Clue{Kind: 4, A: 0, B: 1}), puzzleOf(rings, leastAndGreatestClues(rings)[:5]...)} {
			for _, c := range noClues(rings) {
				more, ok := impl.AddClue(p, c)
				wantNoPuzzle(t, fmt.Sprint("AddClue", puzzleName(p), " ", c), more, ok)
			}
		}
	}
}

// checkMade compares a made puzzle with its clues, and checks that its state fits them.
func checkMade(t *testing.T, rules hiddenRules, s string, clues, seed int) {
	t.Helper()
	what := fmt.Sprint("MakePuzzle ", s, " ", clues, " ", seed)
	p, ok := impl.MakePuzzle(s, clues, seed)
	wantPuzzle(t, what, p, ok, puzzleOf(len(s), rules.made(s, clues, seed)...))
	if !impl.IsPuzzle(p) {
		t.Errorf("%s: got no puzzle", what)
	}
	for _, c := range p.Clues {
		fits, ok := impl.DoesFit(c, s)
		want(t, fmt.Sprint("DoesFit ", c, " of ", what), fits, ok, true)
	}
	states, ok := impl.Solutions(p)
	if !ok || !slices.Contains(states, s) {
		t.Errorf("%s: the solutions are %v, %v", what, states, ok)
	}
	if solved, _ := impl.IsSolved(p); solved {
		harder, ok := impl.HarderPuzzle(p)
		list, fine := impl.Solutions(harder)
		wantList(t, "Solutions of HarderPuzzle of "+what, list, ok && fine, []string{s})
	}
}

func TestMadePuzzles(t *testing.T) {
	for _, rules := range allHiddenRules() {
		for i, s := range rules.line {
			for clues := 0; clues <= 6; clues++ {
				for _, seed := range []int{0, 1, 2, 10 + i, 37 * (i + clues), 5000, 9998, lastSeed} {
					checkMade(t, rules, s, clues, seed)
				}
			}
		}
	}
}

func TestAllSeeds(t *testing.T) {
	rules := allHiddenRules()
	for seed := range lastSeed + 1 {
		s := rules[seed%7].line[seed%len(rules[seed%7].line)]
		checkMade(t, rules[seed%7], s, 6, seed)
	}
}

func TestMadePuzzlesOfToldSeeds(t *testing.T) {
	for _, c := range []struct {
		s     string
		clues int
		seed  int
		text  string
	}{
		// From 0 on come 2477, 499, 2733 and 6807.
		{"010", 0, 0, "3:"}, {"010", 1, 0, "3:2.5.3"}, {"010", 2, 0, "3:2.5.3,3.7.4"}, {"0", 2, 0, "1:2.5.0,3.1.1"}, {"0000001", 2, 0, "7:2.5.2,3.23.104"}, {"111", 2, 0, "3:2.5.0,3.7.2"},
		// From 1 on come 2658, 3239, 8330, 9157, 8739 and 3130.
		{"010", 3, 1, "3:3.7.4,0.1.1,4.1.0"}, {"1", 3, 1, "1:3.1.0,0.0.1,4.0.1"},
		// From 2 on come 2839 and 5979.
		{"010", 1, 2, "3:4.0.1"}, {"00110", 1, 2, "5:4.4.0"}, {"00010", 1, 2, "5:4.4.1"},
		// From 9999 on come 1029 and 8600.
		{"0110", 1, 9999, "4:4.0.1"}, {"110", 1, 9999, "3:4.2.0"}, {"010", 1, 9999, "3:4.2.1"}, {"0001000", 1, 9999, "7:4.4.1"}, {"1", 0, 9999, "1:"},
	} {
		p, ok := impl.MakePuzzle(c.s, c.clues, c.seed)
		wantPuzzle(t, fmt.Sprint("MakePuzzle ", c.s, " ", c.clues, " ", c.seed), p, ok, puzzleOfText(c.text))
	}
}

// For a clue of how many rings are on, too, two numbers are taken.
func TestMadeCluesOfHowManyAreOn(t *testing.T) {
	// From 4 on come 3201, 1452, 5107, 6200, 3893 and 6620.
	for s, text := range map[string]string{"0": "1:1.0.0,2.2.0,3.0.0", "111": "3:1.3.0,2.2.1,3.4.1", "0101010": "7:1.3.0,2.2.1,3.92.41"} {
		p, ok := impl.MakePuzzle(s, 3, 4)
		wantPuzzle(t, "MakePuzzle "+s+" 3 4", p, ok, puzzleOfText(text))
	}
}

func TestSeedsAndNumbersOfCluesThatThereAreNot(t *testing.T) {
	for _, s := range []string{"0", "1", "010", "0000001", "1111111"} {
		for _, clues := range append([]int{0, 1, 6}, noClueCounts...) {
			for _, seed := range append([]int{0, 1, lastSeed}, noSeeds...) {
				if clues >= 0 && clues <= 6 && seed >= 0 && seed <= lastSeed {
					continue
				}
				p, ok := impl.MakePuzzle(s, clues, seed)
				wantNoPuzzle(t, fmt.Sprint("MakePuzzle ", s, " ", clues, " ", seed), p, ok)
			}
		}
	}
}

func TestPuzzleTextsOfAllClues(t *testing.T) {
	for _, rules := range allHiddenRules() {
		clues := rules.clues(127)
		for i, c := range clues {
			p := puzzleOf(rules.rings, c)
			if i%2 > 0 {
				p.Clues = append(p.Clues, clues[(i*i)%len(clues)], clues[i/2])
			}
			text, ok := impl.PuzzleText(p)
			want(t, "PuzzleText"+puzzleName(p), text, ok, textOfPuzzle(p))
			parsed, ok := impl.ParsePuzzle(textOfPuzzle(p))
			wantPuzzle(t, "ParsePuzzle"+puzzleName(p), parsed, ok, p)
		}
	}
	longest := "7:" + strings.Repeat("3.127.127,", 5) + "3.127.127"
	p, ok := impl.ParsePuzzle(longest)
	wantPuzzle(t, "ParsePuzzle "+longest, p, ok, puzzleOf(7, slices.Repeat([]impl.Clue{{Kind: 3, A: 127, B: 127}}, 6)...))
}

func TestTextsThatAreNoPuzzles(t *testing.T) {
	most := "7:" + strings.Repeat("3.127.127,", 5) + "3.127.127"
	for _, s := range []string{
		"", ":", "3", "0:", "8:", "9:", "10:", "20:", "-1:", "-3:", "+3:", "03:", "003:", "3.0:", " 3:", "3 :", "3: ", "3:\n", "\n3:", "3::", ":3", "3;", "3,", "x:", "a:", "３:", "3：", "\xff:", "\x00:", "0x3:", "3_:", "1_1:",
		"3:,", "3:.", "3:..", "3:,,", "3:1", "3:1.1", "3:1.1.", "3:.1.0", "3:1..0", "3:1.1.0.", "3:1.1.0.0", "3:.1.1.0", "3:1.1.0,", "3:,1.1.0", "3:1.1.0,,4.2.1", "3:1.1.0,4.2.1,", "3:1.1.0,4.2", "3:1.1.0,4", "3:1.1.0,4.2.1.0",
		"3:1.1.0;4.2.1", "3:1.1.0 ,4.2.1", "3:1.1.0, 4.2.1", "3:1.1.0 4.2.1", "3:1.1.0.4.2.1", "3:1,1,0", "3:1:1:0", "3:1.1.0:4.2.1", "3:1.1.0,4.2.1:", "3:1-1-0", "3:110", "3:110421", ":1.1.0", "1.1.0", "3.1.1.0", "3,1.1.0",
		"3:01.1.0", "3:1.01.0", "3:1.1.00", "3:1.1.0x", "3:x1.1.0", "3:+1.1.0", "3:1.+1.0", "3:1.1.+0", "3:1.1.-0", "3:-1.1.0", "3:1.-1.0", "3:-0.0.1", "3:0.-0.1", "3:0.0.-1", "3:0.00.1", "3:0.0.01", "3:0.0.1.", "3:0.0.1e0", "3:0x0.0.1",
		"3: 1.1.0", "3:1 .1.0", "3:1. 1.0", "3:1.1. 0", "3:1.1.0 ", "3:1.1.0\n", "3:1.1.\t0", "3:1.1.٠", "3:１.1.0", "3:1.1.0\x00", "3:1.1.\xff", "3:3.1_0.0", "7:3.1_0.0", "7:3.0.1_0", "7:3.0x1.0",
		"3:5.0.0", "3:6.0.1", "3:9.1.0", "3:10.0.0", "3:0.3.0", "3:0.0.2", "3:0.9.1", "3:1.4.0", "3:1.1.1", "3:2.1.0", "3:2.0.0", "3:2.10.0", "3:2.2.2", "3:2.9.9", "3:3.8.0", "3:3.0.128", "3:3.128.0", "7:3.128.0", "7:3.127.128", "3:4.3.0", "3:4.0.2",
		"3:1.1.0,5.0.0", "3:5.0.0,1.1.0", "3:1.1.0,4.3.1", "3:4.3.1,1.1.0", "0:1.0.0", "8:1.1.0", "0:4.0.1", "8:4.0.1", "1:0.1.0", "1:3.2.0", "1:4.1.1", "6:3.64.0", "6:0.6.1",
		"3:4.0.1,4.0.1,4.0.1,4.0.1,4.0.1,4.0.1,4.0.1", "3:" + strings.Repeat("4.0.1,", 6), most + ",4.0.1", most + ",", most + "0", most + " ", "0" + most, " " + most, most[:len(most)-1] + "8", "7:" + strings.Repeat("3.127.127,", 6),
		"18446744073709551619:", "3:18446744073709551617.1.0", "3:1.18446744073709551617.0", "3:1.1.18446744073709551616", "9223372036854775807:", "3:9223372036854775808.1.0", "3:1.1.-9223372036854775808",
		"{3 [{1 1 0}]}", "3:[]", "3:1.1.0/4.2.1", strings.Repeat("3:", 30), strings.Repeat("3:", 1<<15), strings.Repeat(",", 61), strings.Repeat("0", 61) + "3:", "7:" + strings.Repeat("4.0.1,", 1<<14) + "4.0.1", strings.Repeat(".", 1<<16),
	} {
		p, ok := impl.ParsePuzzle(s)
		wantNoPuzzle(t, fmt.Sprintf("ParsePuzzle %.70q", s), p, ok)
	}
}

// noPuzzles have clues that are none, or too many clues.
func noPuzzles() []impl.Puzzle {
	always := impl.Clue{Kind: 4, A: 0, B: 1}
	never := impl.Clue{Kind: 4, A: 0, B: 0}
	var list []impl.Puzzle
	for rings := 1; rings <= 7; rings++ {
		for i, c := range noClues(rings) {
			clues := slices.Repeat([]impl.Clue{always}, 1+i%6)
			clues[i%len(clues)] = c
			list = append(list, puzzleOf(rings, c), puzzleOf(rings, always, c), puzzleOf(rings, c, always), puzzleOf(rings, clues...))
			// A clue that no state fits leaves none to be tried by the next one.
			list = append(list, puzzleOf(rings, never, c), puzzleOf(rings, never, always, always, always, always, c), puzzleOf(rings, impl.Clue{Kind: 1, A: 0, B: 0}, c))
		}
		for _, clues := range []int{7, 8, 64, 1 << 16} {
			list = append(list, puzzleOf(rings, slices.Repeat([]impl.Clue{always}, clues)...), puzzleOf(rings, make([]impl.Clue, clues)...))
		}
		list = append(list, puzzleOf(rings, append(slices.Repeat([]impl.Clue{{Kind: 1, A: 0, B: 0}}, 6), impl.Clue{Kind: 5})...))
	}
	return append(list, puzzleOf(2, impl.Clue{Kind: 0, A: 2, B: 1}), puzzleOf(6, impl.Clue{Kind: 3, A: 64, B: 1}), impl.Puzzle{}, puzzleOf(0, always), puzzleOf(-1), puzzleOf(8), puzzleOf(8, always))
}

func TestPuzzlesThatAreNone(t *testing.T) {
	for _, p := range noPuzzles() {
		failsForPuzzle(t, p)
	}
}

// failsForPuzzle checks that every function fails for what is no puzzle.
func failsForPuzzle(t *testing.T, p impl.Puzzle) {
	t.Helper()
	what := puzzleName(p)
	if impl.IsPuzzle(p) {
		t.Errorf("IsPuzzle%s is true", what)
	}
	states, ok := impl.Solutions(p)
	wantFailList(t, "Solutions"+what, states, ok)
	n, ok := impl.CountSolutions(p)
	wantFail(t, "CountSolutions"+what, n, ok)
	s, ok := impl.FirstSolution(p)
	wantFail(t, "FirstSolution"+what, s, ok)
	s, ok = impl.SureSigns(p)
	wantFail(t, "SureSigns"+what, s, ok)
	solved, ok := impl.IsSolved(p)
	wantFail(t, "IsSolved"+what, solved, ok)
	needless, ok := impl.NeedlessClues(p)
	wantFailList(t, "NeedlessClues"+what, needless, ok)
	left, ok := impl.LeftByClues(p)
	wantFailList(t, "LeftByClues"+what, left, ok)
	n, ok = impl.BestClue(p)
	wantFail(t, "BestClue"+what, n, ok)
	other, ok := impl.HarderPuzzle(p)
	wantNoPuzzle(t, "HarderPuzzle"+what, other, ok)
	s, ok = impl.PuzzleText(p)
	wantFail(t, "PuzzleText"+what, s, ok)
	for _, k := range []int{-1, 0, 1, len(p.Clues) - 1, len(p.Clues)} {
		other, ok = impl.DropClue(p, k)
		wantNoPuzzle(t, fmt.Sprint("DropClue", what, " ", k), other, ok)
	}
	for _, c := range []impl.Clue{{}, {Kind: 4, A: 0, B: 1}, {Kind: 1, A: 0, B: 0}, {Kind: 5}} {
		other, ok = impl.AddClue(p, c)
		wantNoPuzzle(t, fmt.Sprint("AddClue", what, " ", c), other, ok)
	}
	if len(p.Clues) <= 8 {
		other, ok = impl.ParsePuzzle(textOfPuzzle(p))
		wantNoPuzzle(t, "ParsePuzzle"+what, other, ok)
	}
}

func TestPuzzlesExample(t *testing.T) {
	p, ok := impl.ParsePuzzle("3:1.1.0,4.2.1")
	wantPuzzle(t, "ParsePuzzle", p, ok, impl.Puzzle{Rings: 3, Clues: []impl.Clue{{Kind: 1, A: 1, B: 0}, {Kind: 4, A: 2, B: 1}}})
	text, ok := impl.PuzzleText(p)
	want(t, "PuzzleText", text, ok, "3:1.1.0,4.2.1")
	states, ok := impl.Solutions(p)
	wantList(t, "Solutions", states, ok, []string{"010"})
	left, ok := impl.LeftByClues(p)
	wantList(t, "LeftByClues", left, ok, []int{8, 3, 1})
	first, ok := impl.FirstSolution(p)
	number, fine := impl.NumberOfState(first)
	want(t, "NumberOfState of FirstSolution", number, ok && fine, 3)
	q, ok := impl.ParsePuzzle("3:3.0.1")
	sure, fine := impl.SureSigns(q)
	want(t, "SureSigns", sure, ok && fine, "100")
	n, ok := impl.FewestMoves(sure, "000")
	want(t, "FewestMoves of SureSigns", n, ok, 1)
}
