package tests

import (
	"fmt"
	"math"
	"runtime"
	"slices"
	"strings"
	"testing"
	"time"

	"loop.example/g01314/impl"
)

// Promise 3: moves of two at once save what is told.

var noPairedCounts = []int{math.MinInt, -12, -2, -1, 0, 1, 13, 14, 20, 21, 32, 63, 64, 66, 1000, math.MaxInt}

// unpaired are states of one ring and of more than MaxPaired rings.
func unpaired() []string {
	states := []string{"0", "1"}
	for rings := 13; rings <= 20; rings++ {
		states = append(states, off(rings), strings.Repeat("1", rings), strings.Repeat("0", rings-1)+"1")
	}
	return states
}

// pairedSamples are states of so many rings of all sorts.
func pairedSamples(rings int) []string {
	return []string{
		off(rings), strings.Repeat("1", rings), strings.Repeat("0", rings-1) + "1", "1" + strings.Repeat("0", rings-1),
		strings.Repeat("01", rings)[:rings], strings.Repeat("10", rings)[:rings], strings.Repeat("0011", rings)[:rings],
	}
}

func TestChapter3LimitsAsTold(t *testing.T) {
	if impl.MaxPaired != 12 || impl.Both != -1 {
		t.Error("limits", impl.MaxPaired, impl.Both)
	}
}

func TestPairMovesOfAndMakePairMove(t *testing.T) {
	for rings := 2; rings <= searchedRings; rings++ {
		for _, s := range statesOf(rings) {
			checkPairMoves(t, s)
		}
	}
	for _, s := range pairedSamples(12) {
		checkPairMoves(t, s)
	}
}

func checkPairMoves(t *testing.T, s string) {
	t.Helper()
	moves, ok := impl.PairMovesOf(s)
	wantList(t, "PairMovesOf "+s, moves, ok, rulePairMoves(s))
	for _, k := range []int{math.MinInt, -64, -3, -2, -1, 0, 1, 2, 3, 4, 5, 6, 7, 8, 9, 10, 11, 12, 13, 63, 64, math.MaxInt} {
		what := fmt.Sprint("MakePairMove ", s, " ", k)
		next, ok := impl.MakePairMove(s, k)
		if !slices.Contains(rulePairMoves(s), k) {
			wantFail(t, what, next, ok)
			continue
		}
		want(t, what, next, ok, pairFlipped(s, k))
		back, ok := impl.MakePairMove(next, k)
		want(t, what+" and back", back, ok, s)
	}
}

func TestTwoPairedStatesAgainstSearch(t *testing.T) {
	for rings := 2; rings <= pairedRings; rings++ {
		numbers := numbersOf(rings)
		for _, a := range statesOf(rings) {
			for b, ways := range pairLists(a) {
				alone := max(numbers[a], numbers[b]) - min(numbers[a], numbers[b])
				checkPairWay(t, a, b, ways, alone)
			}
		}
	}
}

// checkPairWay compares what is told of two states with all lists of fewest
// moves, in order, and with the fewest moves of one ring each.
func checkPairWay(t *testing.T, a, b string, ways [][]int, alone int) {
	t.Helper()
	what := " " + a + " " + b
	first := ways[0]
	n, ok := impl.FewestPairMoves(a, b)
	want(t, "FewestPairMoves"+what, n, ok, len(first))
	way, ok := impl.FirstPairMoves(a, b)
	wantList(t, "FirstPairMoves"+what, way, ok, first)
	n, ok = impl.CountPairWays(a, b)
	want(t, "CountPairWays"+what, n, ok, len(ways))
	n, ok = impl.SavedByPairs(a, b)
	want(t, "SavedByPairs"+what, n, ok, alone-len(first))
	n, ok = impl.PairsUsed(a, b)
	want(t, "PairsUsed"+what, n, ok, countOf(first, -1))
	end, ok := impl.PlayPairMoves(a, way)
	want(t, "PlayPairMoves"+what, end, ok, b)
}

func TestTwoPairedStatesThatAreTheSame(t *testing.T) {
	for rings := 2; rings <= 12; rings++ {
		for _, s := range pairedSamples(rings) {
			checkPairWay(t, s, s, [][]int{nil}, 0)
		}
	}
}

func TestBarOfTwoRings(t *testing.T) {
	for a, row := range map[string]map[string][]int{
		"00": {"00": nil, "10": {0}, "11": {-1}, "01": {-1, 0}},
		"10": {"00": {0}, "10": nil, "11": {1}, "01": {1, 0}},
		"11": {"00": {-1}, "10": {1}, "11": nil, "01": {0}},
		"01": {"00": {0, -1}, "10": {0, 1}, "11": {0}, "01": nil},
	} {
		for b, first := range row {
			alone, _ := impl.FewestMoves(a, b)
			checkPairWay(t, a, b, [][]int{first}, alone)
		}
	}
	far, n, ok := impl.FarthestByPairs("11")
	wantList(t, "FarthestByPairs 11", far, ok, []string{"00", "10", "01"})
	want(t, "FarthestByPairs 11", n, ok, 1)
	far, n, ok = impl.FarthestByPairs("00")
	wantList(t, "FarthestByPairs 00", far, ok, []string{"01"})
	want(t, "FarthestByPairs 00", n, ok, 2)
	n, ok = impl.PairMovesToClear(2)
	want(t, "PairMovesToClear 2", n, ok, 1)
	n, ok = impl.MostSaved(2)
	want(t, "MostSaved 2", n, ok, 1)
	near, ok := impl.NearByPairs("01", 1)
	wantList(t, "NearByPairs 01 1", near, ok, []string{"11", "01"})
	near, ok = impl.NearByPairs("01", 6)
	wantList(t, "NearByPairs 01 6", near, ok, []string{"00", "10", "11", "01"})
}

func TestStatesFarAndNearByPairs(t *testing.T) {
	for rings := 2; rings <= searchedRings; rings++ {
		numbers := numbersOf(rings)
		for _, s := range statesOf(rings) {
			checkFarAndNear(t, s, numbers)
		}
	}
	numbers := numbersOf(12)
	for _, s := range pairedSamples(12) {
		checkFarAndNear(t, s, numbers)
	}
}

func checkFarAndNear(t *testing.T, s string, numbers map[string]int) {
	t.Helper()
	distances := pairDistances(s)
	most := greatestDistance(distances)
	far, n, ok := impl.FarthestByPairs(s)
	wantList(t, "FarthestByPairs "+s, far, ok, statesAt(distances, numbers, most, most))
	want(t, "FarthestByPairs "+s, n, ok, most)
	for moves := range 7 {
		near, ok := impl.NearByPairs(s, moves)
		wantList(t, fmt.Sprint("NearByPairs ", s, " ", moves), near, ok, statesAt(distances, numbers, 0, moves))
	}
	for _, moves := range []int{math.MinInt, -7, -1, 7, 8, 100, math.MaxInt} {
		near, ok := impl.NearByPairs(s, moves)
		wantFailList(t, fmt.Sprint("NearByPairs ", s, " ", moves), near, ok)
	}
}

func TestPairedBarsOfSoManyRings(t *testing.T) {
	for rings := 2; rings <= 12; rings++ {
		distances := pairDistances(off(rings))
		n, ok := impl.PairMovesToClear(rings)
		want(t, fmt.Sprint("PairMovesToClear ", rings), n, ok, distances[strings.Repeat("1", rings)])
		// 1, 4, 7, 16, 31, 64, ..: a power of two, or one less for even numbers.
		want(t, fmt.Sprint("PairMovesToClear ", rings), n, ok, 1<<(rings-1)-(rings+1)%2)
		saved := 0
		for s, number := range numbersOf(rings) {
			saved = max(saved, number-distances[s])
		}
		n, ok = impl.MostSaved(rings)
		want(t, fmt.Sprint("MostSaved ", rings), n, ok, saved)
		checkCounts(t, rings, distances)
	}
}

func checkCounts(t *testing.T, rings int, distances map[string]int) {
	t.Helper()
	states := map[int]int{}
	for _, moves := range distances {
		states[moves]++
	}
	most := greatestDistance(distances)
	listed := []int{0, 1, 2, 3, 4, most - 1, most, most + 1, 1000, 2000, 2001, 4095, 4096, 9999, 10000}
	if rings <= 8 {
		for moves := range most {
			listed = append(listed, moves)
		}
	}
	for _, moves := range listed {
		n, ok := impl.CountByPairs(rings, moves)
		want(t, fmt.Sprint("CountByPairs ", rings, " ", moves), n, ok, states[moves])
	}
	for _, moves := range []int{math.MinInt, -1, 10001, math.MaxInt} {
		n, ok := impl.CountByPairs(rings, moves)
		wantFail(t, fmt.Sprint("CountByPairs ", rings, " ", moves), n, ok)
	}
}

func TestNumbersOfRingsThatAreNotPaired(t *testing.T) {
	for _, rings := range noPairedCounts {
		n, ok := impl.PairMovesToClear(rings)
		wantFail(t, fmt.Sprint("PairMovesToClear ", rings), n, ok)
		n, ok = impl.MostSaved(rings)
		wantFail(t, fmt.Sprint("MostSaved ", rings), n, ok)
		for _, moves := range []int{-1, 0, 1, 10000, 10001} {
			n, ok = impl.CountByPairs(rings, moves)
			wantFail(t, fmt.Sprint("CountByPairs ", rings, " ", moves), n, ok)
		}
	}
}

// Of the most rings there are ways that are longer than MaxMoves.
func TestLongPairWays(t *testing.T) {
	none, all, end := off(12), strings.Repeat("1", 12), strings.Repeat("0", 11)+"1"
	n, ok := impl.FewestPairMoves(none, end)
	want(t, "FewestPairMoves", n, ok, 3071)
	n, ok = impl.SavedByPairs(end, none)
	want(t, "SavedByPairs", n, ok, 1024)
	n, ok = impl.PairsUsed(none, end)
	want(t, "PairsUsed", n, ok, 1024)
	n, ok = impl.FewestPairMoves(all, none)
	want(t, "FewestPairMoves", n, ok, 2047)
	for _, ends := range [][2]string{{none, end}, {end, none}, {all, none}, {none, all}, {all, end}, {end, all}} {
		checkLongPairWay(t, ends[0], ends[1])
	}
}

// checkLongPairWay follows FirstPairMoves by the rules. Just one move leads
// nearer from each state: Both passes by one state of the line, and a way of
// the two moves over that state is longer.
func checkLongPairWay(t *testing.T, a, b string) {
	t.Helper()
	what := fmt.Sprint(a, " ", b)
	distances := pairDistances(b)
	way, ok := impl.FirstPairMoves(a, b)
	want(t, "FirstPairMoves "+what, len(way), ok, distances[a])
	at := a
	for i, k := range way {
		var nearer []int
		for _, move := range rulePairMoves(at) {
			if distances[pairFlipped(at, move)] < distances[at] {
				nearer = append(nearer, move)
			}
		}
		if len(nearer) != 1 || k != nearer[0] {
			t.Fatalf("FirstPairMoves %s: the move %d is %d, want just %v", what, i, k, nearer)
		}
		at = pairFlipped(at, k)
	}
	want(t, "FirstPairMoves "+what, at, ok, b)
	n, ok := impl.PairsUsed(a, b)
	want(t, "PairsUsed "+what, n, ok, countOf(way, -1))
	n, ok = impl.CountPairWays(a, b)
	want(t, "CountPairWays "+what, n, ok, 1)
	checkPlayedInTwo(t, a, b, way)
}

// checkPlayedInTwo plays a way of up to twice MaxMoves in two parts.
func checkPlayedInTwo(t *testing.T, a, b string, way []int) {
	t.Helper()
	half := len(way) / 2
	middle, ok := impl.PlayPairMoves(a, way[:half])
	if !ok {
		t.Errorf("PlayPairMoves %s: the first half fails", a)
	}
	end, ok := impl.PlayPairMoves(middle, way[half:])
	want(t, "PlayPairMoves "+middle, end, ok, b)
	end, ok = impl.PlayPairMoves(a, way)
	if len(way) > 2000 {
		wantFail(t, "PlayPairMoves "+a, end, ok)
	} else {
		want(t, "PlayPairMoves "+a, end, ok, b)
	}
}

func TestPlayPairMoves(t *testing.T) {
	for _, c := range []struct {
		s     string
		moves []int
		end   string // empty if a move cannot be made
	}{
		{"111", nil, "111"},
		{"00", []int{}, "00"},
		{"111", []int{0, 2, 0, -1}, "000"},
		{"111", []int{0, 2, 0, 1, 0}, "000"},
		{"00", []int{-1, -1, -1}, "11"},
		{"000000000000", []int{-1, 0, 2, 0, -1, 3}, "001100000000"},
		{"10", []int{-1}, ""},
		{"01", []int{-1}, ""},
		{"111", []int{-2}, ""},
		{"111", []int{2}, ""},
		{"111", []int{-1, 3}, ""},
		{"001", []int{3}, ""},
		{"111", []int{0, -1}, ""},
		{"111", []int{0, 2, 0, -1, 1}, ""},
		{"111", []int{0, math.MinInt, 0}, ""},
		{"111", []int{-1, math.MaxInt}, ""},
		{"111", []int{9, 0, 2, 0, -1}, ""},
	} {
		what := fmt.Sprint("PlayPairMoves ", c.s, c.moves)
		end, ok := impl.PlayPairMoves(c.s, c.moves)
		if c.end == "" {
			wantFail(t, what, end, ok)
		} else {
			want(t, what, end, ok, c.end)
		}
	}
}

func TestMostPairMoves(t *testing.T) {
	moves := slices.Repeat([]int{-1}, 2000)
	s, ok := impl.PlayPairMoves("111", moves)
	want(t, "PlayPairMoves of 2000", s, ok, "111")
	moves[1999] = 1
	s, ok = impl.PlayPairMoves("111", moves)
	wantFail(t, "PlayPairMoves of 2000, the last one failing", s, ok)
	moves[0], moves[1999] = 2, -1
	s, ok = impl.PlayPairMoves("111", moves)
	wantFail(t, "PlayPairMoves of 2000, the first one failing", s, ok)
	for _, more := range []int{2001, 2002, 4000, 100000} {
		s, ok = impl.PlayPairMoves("111", slices.Repeat([]int{-1}, more))
		wantFail(t, "PlayPairMoves of too many", s, ok)
		s, ok = impl.PlayPairMoves("111", make([]int, more))
		wantFail(t, "PlayPairMoves of too many", s, ok)
	}
}

// What sends the moves has ended when a call returns, wherever a move fails.
func TestPlayPairMovesLeavesNothingRunning(t *testing.T) {
	before := runtime.NumGoroutine()
	for failing := range 500 {
		moves := slices.Repeat([]int{-1}, 2000)
		moves[failing*4] = 9
		s, ok := impl.PlayPairMoves("111", moves)
		wantFail(t, "PlayPairMoves", s, ok)
		clear(moves)
	}
	for range 100 {
		if runtime.NumGoroutine() <= before {
			return
		}
		time.Sleep(10 * time.Millisecond)
	}
	t.Errorf("%d goroutines before, %d after", before, runtime.NumGoroutine())
}

func TestTextsThatAreNotPaired(t *testing.T) {
	for _, s := range append(unpaired(), noStates...) {
		what := fmt.Sprintf(" %.30q", s)
		l, ok := impl.PairMovesOf(s)
		wantFailList(t, "PairMovesOf"+what, l, ok)
		for _, k := range []int{-1, 0} {
			text, ok := impl.MakePairMove(s, k)
			wantFail(t, "MakePairMove"+what, text, ok)
			text, ok = impl.PlayPairMoves(s, []int{k})
			wantFail(t, "PlayPairMoves"+what, text, ok)
		}
		text, ok := impl.PlayPairMoves(s, nil)
		wantFail(t, "PlayPairMoves"+what, text, ok)
		states, n, ok := impl.FarthestByPairs(s)
		wantFailList(t, "FarthestByPairs"+what, states, ok)
		wantFail(t, "FarthestByPairs"+what, n, ok)
		for _, moves := range []int{-1, 0, 6, 7} {
			states, ok = impl.NearByPairs(s, moves)
			wantFailList(t, "NearByPairs"+what, states, ok)
		}
		for _, other := range []string{"00", "111", off(12), s} {
			failsForTwoPaired(t, s, other)
			failsForTwoPaired(t, other, s)
		}
	}
}

func TestPairedStatesOfDifferentLengths(t *testing.T) {
	for a := 1; a <= 20; a++ {
		for b := 1; b <= 20; b++ {
			if a != b {
				failsForTwoPaired(t, off(a), off(b))
				failsForTwoPaired(t, strings.Repeat("1", a), strings.Repeat("1", b))
			}
		}
	}
}

func failsForTwoPaired(t *testing.T, a, b string) {
	t.Helper()
	what := fmt.Sprintf(" %.30q %.30q", a, b)
	n, ok := impl.FewestPairMoves(a, b)
	wantFail(t, "FewestPairMoves"+what, n, ok)
	way, ok := impl.FirstPairMoves(a, b)
	wantFailList(t, "FirstPairMoves"+what, way, ok)
	n, ok = impl.CountPairWays(a, b)
	wantFail(t, "CountPairWays"+what, n, ok)
	n, ok = impl.SavedByPairs(a, b)
	wantFail(t, "SavedByPairs"+what, n, ok)
	n, ok = impl.PairsUsed(a, b)
	wantFail(t, "PairsUsed"+what, n, ok)
}

func TestTwoAtOnceExample(t *testing.T) {
	way, ok := impl.FirstPairMoves("111", "000")
	wantList(t, "FirstPairMoves", way, ok, []int{0, 2, 0, impl.Both})
	s := "111"
	for i, next := range []string{"011", "010", "110", "000"} {
		s, ok = impl.MakePairMove(s, way[i])
		want(t, "MakePairMove", s, ok, next)
	}
	n, ok := impl.SavedByPairs("111", "000")
	want(t, "SavedByPairs", n, ok, 1)
	moves, ok := impl.PairMovesOf("000")
	wantList(t, "PairMovesOf", moves, ok, []int{impl.Both, 0})
	for rings, wanted := range map[int]int{2: 1, 3: 4, 4: 7} {
		n, ok = impl.PairMovesToClear(rings)
		want(t, fmt.Sprint("PairMovesToClear ", rings), n, ok, wanted)
	}
}
