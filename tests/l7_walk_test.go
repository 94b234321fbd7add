package tests

import (
	"fmt"
	"math"
	"math/big"
	"slices"
	"strings"
	"testing"

	"loop.example/g01314/impl"
)

// Promise 7: means of walks go by one move more than those behind.

const walkedRings = 5

var noWalkRingCounts = []int{math.MinInt, -64, -12, -1, 0, 13, 14, 19, 20, 21, 32, 63, 64, 65, 1000, math.MaxInt}

var noWalkLengths = []int{math.MinInt, -41, -40, -2, -1, 41, 42, 63, 64, 65, 100, 2000, math.MaxInt}

// unwalked are states of more than MaxWalkRings rings.
func unwalked() []string {
	var states []string
	for rings := 13; rings <= 20; rings++ {
		states = append(states, off(rings), strings.Repeat("1", rings), strings.Repeat("0", rings-1)+"1", strings.Repeat("10", rings)[:rings])
	}
	return states
}

// numbersOnLine are some numbers of states of so many: near both ends, as far
// from them as the longest walks lead, in the middle, and those in which all rings are on.
func numbersOnLine(line []string) []int {
	var numbers []int
	all := slices.Index(line, strings.Repeat("1", len(line[0])))
	for _, n := range []int{0, 1, 2, 3, 19, 20, 21, 38, 39, 40, 41, 42, 100, len(line)/2 - 1, len(line) / 2, len(line) / 3, all, all + 1} {
		for _, number := range []int{n, len(line) - 1 - n} {
			if number >= 0 && number < len(line) {
				numbers = append(numbers, number)
			}
		}
	}
	slices.Sort(numbers)
	return slices.Compact(numbers)
}

func TestChapter7LimitsAsTold(t *testing.T) {
	if impl.MaxWalk != 40 || impl.MaxWalkRings != 12 {
		t.Error("limits", impl.MaxWalk, impl.MaxWalkRings)
	}
}

// checkMeans checks the means of walks to a goal from all states of a line:
// that of the goal is 0, and each other one goes by one move more than the mean
// of those behind its moves. No other numbers are such means.
func checkMeans(t *testing.T, what string, line []string, goal int, mean func(string) (int, bool)) {
	t.Helper()
	means := make([]int, len(line))
	for i, s := range line {
		n, ok := mean(s)
		if !ok {
			t.Fatalf("%s from %s fails", what, s)
		}
		means[i] = n
	}
	for i, s := range line {
		sum, ways := 0, 0
		if i > 0 {
			sum, ways = sum+means[i-1], ways+1
		}
		if i < len(line)-1 {
			sum, ways = sum+means[i+1], ways+1
		}
		if i == goal && means[i] != 0 || i != goal && ways*means[i] != ways+sum {
			t.Fatalf("%s from %s to %s: %d, and those behind %d moves are %d together", what, s, line[goal], means[i], ways, sum)
		}
	}
}

func TestMeanToClearGoesByOneMoreThanThoseBehind(t *testing.T) {
	for rings := 1; rings <= 20; rings++ {
		line := lineOf(rings)
		checkMeans(t, "MeanToClear", line, 0, impl.MeanToClear)
		end := len(line) - 1
		n, ok := impl.MeanToClear(line[end])
		want(t, "MeanToClear "+line[end], n, ok, end*end)
	}
}

func TestMeanFromGoesByOneMoreThanThoseBehind(t *testing.T) {
	for rings := 1; rings <= 12; rings++ {
		line := lineOf(rings)
		goals := numbersOnLine(line)
		if rings <= 7 {
			goals = firstNumbers(len(line))
		}
		for _, goal := range goals {
			checkMeansTo(t, line, goal)
		}
	}
}

func TestMeanFromOfMostRings(t *testing.T) {
	line := lineOf(20)
	end := len(line) - 1
	for _, goal := range []int{0, 1, 699051, end} {
		checkMeansTo(t, line, goal)
	}
	n, ok := impl.MeanFrom(line[0], line[end])
	want(t, "MeanFrom "+line[0]+" "+line[end], n, ok, end*end)
	n, ok = impl.MeanFrom(line[end-1], line[end])
	want(t, "MeanFrom "+line[end-1]+" "+line[end], n, ok, 2*end-1)
	for _, number := range numbersOnLine(line) {
		n, ok = impl.MeanFrom(line[number], line[number])
		want(t, "MeanFrom itself "+line[number], n, ok, 0)
	}
}

func checkMeansTo(t *testing.T, line []string, goal int) {
	t.Helper()
	checkMeans(t, "MeanFrom", line, goal, func(s string) (int, bool) { return impl.MeanFrom(s, line[goal]) })
}

func TestMeansOfFewRings(t *testing.T) {
	for _, line := range [][]string{{"0", "1"}, {"00", "10", "11", "01"}} {
		means := [][]int{{0, 1, 4, 9}, {5, 0, 3, 8}, {8, 3, 0, 5}, {9, 4, 1, 0}}
		if len(line) == 2 {
			means = [][]int{{0, 1}, {1, 0}}
		}
		for i, a := range line {
			for j, b := range line {
				n, ok := impl.MeanFrom(a, b)
				want(t, "MeanFrom "+a+" "+b, n, ok, means[i][j])
			}
			n, ok := impl.MeanToClear(a)
			want(t, "MeanToClear "+a, n, ok, means[i][0])
		}
	}
}

func TestChanceBeforeAgainstThoseBehind(t *testing.T) {
	for rings := 1; rings <= walkedRings; rings++ {
		line := lineOf(rings)
		for a := range line {
			for b := range line {
				if a != b {
					checkChances(t, line, a, b)
				}
			}
		}
	}
}

// checkChances checks the chances to be at a before b from all states: 1 at a,
// 0 at b, and else the mean of those behind the moves. No other numbers are such chances.
func checkChances(t *testing.T, line []string, a, b int) {
	t.Helper()
	chances := map[string]*big.Rat{}
	for _, s := range line {
		n, d, ok := impl.ChanceBefore(s, line[a], line[b])
		if !ok || d < 1 {
			t.Fatalf("ChanceBefore %s %s %s: %d / %d, %v", s, line[a], line[b], n, d, ok)
		}
		chances[s] = big.NewRat(int64(n), int64(d))
		wantRatio(t, fmt.Sprint("ChanceBefore ", s, " ", line[a], " ", line[b]), n, d, ok, chances[s])
	}
	for i, s := range line {
		behind := besides(s)
		mean := new(big.Rat)
		for _, next := range behind {
			mean.Add(mean, chances[next])
		}
		mean.Mul(mean, big.NewRat(1, int64(len(behind))))
		switch i {
		case a:
			mean = big.NewRat(1, 1)
		case b:
			mean = new(big.Rat)
		}
		if chances[s].Cmp(mean) != 0 {
			t.Errorf("ChanceBefore %s %s %s: %v, want %v", s, line[a], line[b], chances[s], mean)
		}
	}
}

// Of the most rings the numerators and denominators are compared as whole
// numbers, which three denominators of 20 digits do not exceed.
func TestChanceBeforeOfMostRings(t *testing.T) {
	line := lineOf(20)
	end := len(line) - 1
	for _, ends := range [][2]int{{0, end}, {end, 0}, {699050, 40}} {
		a, b := ends[0], ends[1]
		above, below := make([]int, len(line)), make([]int, len(line))
		for i, s := range line {
			n, d, ok := impl.ChanceBefore(s, line[a], line[b])
			if !ok || d < 1 || !inLowestTerms(n, d) {
				t.Fatalf("ChanceBefore %s: %d / %d, %v", s, n, d, ok)
			}
			above[i], below[i] = n, d
		}
		if above[a] != 1 || below[a] != 1 || above[b] != 0 || below[b] != 1 {
			t.Errorf("ChanceBefore at %s and %s", line[a], line[b])
		}
		if above[0]*below[1] != above[1]*below[0] && a != 0 && b != 0 || above[end]*below[end-1] != above[end-1]*below[end] && a != end && b != end {
			t.Errorf("ChanceBefore %s %s: a state with one move", line[a], line[b])
		}
		for i := 1; i < end; i++ {
			if i != a && i != b && 2*above[i]*below[i-1]*below[i+1] != above[i-1]*below[i]*below[i+1]+above[i+1]*below[i]*below[i-1] {
				t.Fatalf("ChanceBefore %s %s %s is not the mean of those behind", line[i], line[a], line[b])
			}
		}
	}
}

func inLowestTerms(n, d int) bool {
	ratio := big.NewRat(int64(n), int64(d))
	return ratio.Num().Int64() == int64(n) && ratio.Denom().Int64() == int64(d)
}

func TestChanceBeforeAtBothStatesAndBeyond(t *testing.T) {
	for _, c := range []struct {
		s, a, b string
		n, d    int
	}{
		{"0", "0", "1", 1, 1}, {"1", "0", "1", 0, 1}, {"0", "1", "0", 0, 1}, {"1", "1", "0", 1, 1},
		{"00", "00", "01", 1, 1}, {"01", "00", "01", 0, 1}, {"11", "00", "01", 1, 3}, {"11", "01", "00", 2, 3},
		{"00", "10", "01", 1, 1}, {"00", "01", "10", 0, 1}, {"01", "11", "10", 1, 1}, {"01", "10", "11", 0, 1},
		{"10", "00", "11", 1, 2}, {"110", "000", "001", 5, 7}, {"010", "000", "111", 2, 5}, {"110", "000", "011", 1, 2},
		{"111", "000", "011", 0, 1}, {"111", "011", "000", 1, 1},
		{off(20), strings.Repeat("1", 20), strings.Repeat("0", 19) + "1", 1, 1},
		{strings.Repeat("1", 20), off(20), strings.Repeat("0", 19) + "1", 1, 3},
	} {
		n, d, ok := impl.ChanceBefore(c.s, c.a, c.b)
		if !ok || n != c.n || d != c.d {
			t.Errorf("ChanceBefore %s %s %s: %d / %d, %v, want %d / %d", c.s, c.a, c.b, n, d, ok, c.n, c.d)
		}
	}
}

func TestMeanNumberAndMeanOfPairs(t *testing.T) {
	for rings := 1; rings <= 12; rings++ {
		states := len(lineOf(rings))
		sum, apart := 0, 0
		for i := range states {
			sum += i
			for j := range states {
				apart += max(i, j) - min(i, j)
			}
		}
		n, d, ok := impl.MeanNumber(rings)
		wantRatio(t, fmt.Sprint("MeanNumber ", rings), n, d, ok, big.NewRat(int64(sum), int64(states)))
		n, d, ok = impl.MeanOfPairs(rings)
		wantRatio(t, fmt.Sprint("MeanOfPairs ", rings), n, d, ok, big.NewRat(int64(apart), int64(states)*int64(states)))
	}
}

// The numbers and the fewest moves of which these are the means are those of chapter 1.
func TestMeansAreThoseOfChapter1(t *testing.T) {
	for rings := 1; rings <= pairedRings; rings++ {
		sum, apart := int64(0), int64(0)
		states := statesOf(rings)
		for _, a := range states {
			number, _ := impl.NumberOfState(a)
			sum += int64(number)
			for _, b := range states {
				moves, _ := impl.FewestMoves(a, b)
				apart += int64(moves)
			}
		}
		count := int64(len(states))
		n, d, ok := impl.MeanNumber(rings)
		wantRatio(t, fmt.Sprint("MeanNumber ", rings), n, d, ok, big.NewRat(sum, count))
		n, d, ok = impl.MeanOfPairs(rings)
		wantRatio(t, fmt.Sprint("MeanOfPairs ", rings), n, d, ok, big.NewRat(apart, count*count))
	}
}

func TestStatesWithSoManyOn(t *testing.T) {
	for rings := 1; rings <= 12; rings++ {
		line := lineOf(rings)
		for on := range rings + 1 {
			checkWithOn(t, line, on)
		}
		for _, on := range []int{math.MinInt, -rings, -1, rings + 1, rings + 2, 13, 64, math.MaxInt} {
			failsForOn(t, rings, on)
		}
	}
	for _, rings := range noWalkRingCounts {
		for _, on := range []int{math.MinInt, -1, 0, 1, 2, 12, rings, math.MaxInt} {
			failsForOn(t, rings, on)
		}
	}
}

func checkWithOn(t *testing.T, line []string, on int) {
	t.Helper()
	rings := len(line[0])
	what := fmt.Sprint(" ", rings, " ", on)
	var states []string
	sum := 0
	for number, s := range line {
		if strings.Count(s, "1") == on {
			states = append(states, s)
			sum += number
		}
	}
	n, ok := impl.CountWithOn(rings, on)
	want(t, "CountWithOn"+what, n, ok, len(states))
	s, ok := impl.LeastWithOn(rings, on)
	want(t, "LeastWithOn"+what, s, ok, states[0])
	s, ok = impl.GreatestWithOn(rings, on)
	want(t, "GreatestWithOn"+what, s, ok, states[len(states)-1])
	n, ok = impl.SumWithOn(rings, on)
	want(t, "SumWithOn"+what, n, ok, sum)
	list, ok := impl.StatesWithOn(rings, on)
	if len(states) > 100 {
		wantFailList(t, "StatesWithOn"+what, list, ok)
	} else {
		wantList(t, "StatesWithOn"+what, list, ok, states)
	}
}

func failsForOn(t *testing.T, rings, on int) {
	t.Helper()
	what := fmt.Sprint(" ", rings, " ", on)
	n, ok := impl.CountWithOn(rings, on)
	wantFail(t, "CountWithOn"+what, n, ok)
	s, ok := impl.LeastWithOn(rings, on)
	wantFail(t, "LeastWithOn"+what, s, ok)
	s, ok = impl.GreatestWithOn(rings, on)
	wantFail(t, "GreatestWithOn"+what, s, ok)
	n, ok = impl.SumWithOn(rings, on)
	wantFail(t, "SumWithOn"+what, n, ok)
	list, ok := impl.StatesWithOn(rings, on)
	wantFailList(t, "StatesWithOn"+what, list, ok)
}

// Of no number of rings just 100 states have just so many on: the numbers next
// to it are 84, of 9 rings, and 120, of 10.
func TestMostStatesWithSoManyOn(t *testing.T) {
	most, least := 0, math.MaxInt
	for rings := 1; rings <= 12; rings++ {
		for on := range rings + 1 {
			n, _ := impl.CountWithOn(rings, on)
			list, ok := impl.StatesWithOn(rings, on)
			if ok && len(list) == n {
				most = max(most, n)
			} else {
				least = min(least, n)
			}
		}
	}
	if most != 84 || least != 120 {
		t.Error("the most states that are told are", most, "and the fewest that are not", least)
	}
}

func TestNoRingOnAndAllOn(t *testing.T) {
	for rings := 1; rings <= 12; rings++ {
		what := fmt.Sprint(" ", rings)
		list, ok := impl.StatesWithOn(rings, 0)
		wantList(t, "StatesWithOn 0 of"+what, list, ok, []string{off(rings)})
		n, ok := impl.SumWithOn(rings, 0)
		want(t, "SumWithOn 0 of"+what, n, ok, 0)
		list, ok = impl.StatesWithOn(rings, rings)
		wantList(t, "StatesWithOn all of"+what, list, ok, []string{strings.Repeat("1", rings)})
		clear, _ := impl.MovesToClear(rings)
		n, ok = impl.SumWithOn(rings, rings)
		want(t, "SumWithOn all of"+what, n, ok, clear)
		s, ok := impl.GreatestWithOn(rings, 1)
		want(t, "GreatestWithOn 1 of"+what, s, ok, strings.Repeat("0", rings-1)+"1")
		s, ok = impl.LeastWithOn(rings, 1)
		want(t, "LeastWithOn 1 of"+what, s, ok, "1"+off(rings-1))
	}
}

func TestWalksToAgainstAllLists(t *testing.T) {
	for rings := 1; rings <= 4; rings++ {
		for _, a := range statesOf(rings) {
			for moves := range 9 {
				walks := listedWalks(a, moves)
				for _, b := range statesOf(rings) {
					n, ok := impl.WalksTo(a, b, moves)
					want(t, fmt.Sprint("WalksTo ", a, " ", b, " ", moves), n, ok, walks[b])
				}
			}
		}
	}
}

func TestWalksOfFewRings(t *testing.T) {
	for rings := 1; rings <= walkedRings; rings++ {
		line := lineOf(rings)
		for _, a := range line {
			counts, chances := walkCounts(a, 40), walkChances(a, 40)
			for moves := range 41 {
				checkWalks(t, line, a, line, moves, counts[moves], chances[moves])
			}
		}
	}
}

func TestWalksOfMostRings(t *testing.T) {
	line := lineOf(12)
	for _, number := range numbersOnLine(line) {
		a := line[number]
		counts, chances := walkCounts(a, 40), walkChances(a, 40)
		ends := slices.Concat(line[max(number-43, 0):min(number+44, len(line))], []string{line[0], line[1], line[4095]})
		for _, moves := range []int{0, 1, 2, 3, 19, 39, 40} {
			checkWalks(t, line, a, ends, moves, counts[moves], chances[moves])
		}
	}
}

// checkWalks compares what is told of walks of so many moves from a state to some others.
func checkWalks(t *testing.T, line []string, a string, ends []string, moves int, counts map[string]int, chances map[string]*big.Rat) {
	t.Helper()
	for _, b := range ends {
		what := fmt.Sprint(" ", a, " ", b, " ", moves)
		n, ok := impl.WalksTo(a, b, moves)
		want(t, "WalksTo"+what, n, ok, counts[b])
		chance := chances[b]
		if chance == nil {
			chance = new(big.Rat)
		}
		n, d, ok := impl.ChanceAfter(a, b, moves)
		wantRatio(t, "ChanceAfter"+what, n, d, ok, chance)
	}
	list, ok := impl.LikeliestAfter(a, moves)
	wantList(t, fmt.Sprint("LikeliestAfter ", a, " ", moves), list, ok, likeliestOf(line, chances))
}

func TestWalksOfNoMoves(t *testing.T) {
	for rings := 1; rings <= 12; rings++ {
		for _, s := range pairedSamples(rings) {
			n, ok := impl.WalksTo(s, s, 0)
			want(t, "WalksTo itself "+s, n, ok, 1)
			n, d, ok := impl.ChanceAfter(s, s, 0)
			wantRatio(t, "ChanceAfter itself "+s, n, d, ok, big.NewRat(1, 1))
			other := flipped(s, 0)
			n, ok = impl.WalksTo(s, other, 0)
			want(t, "WalksTo "+s+" "+other, n, ok, 0)
			n, d, ok = impl.ChanceAfter(s, other, 0)
			wantRatio(t, "ChanceAfter "+s+" "+other, n, d, ok, new(big.Rat))
			list, ok := impl.LikeliestAfter(s, 0)
			wantList(t, "LikeliestAfter "+s+" 0", list, ok, []string{s})
		}
	}
}

// Of one ring there is one walk of each length, and so it is by one move from both ends.
func TestWalksFromStatesWithOneMove(t *testing.T) {
	for moves := range 41 {
		for _, a := range []string{"0", "1"} {
			for _, b := range []string{"0", "1"} {
				wanted := 0
				if (a == b) == (moves%2 == 0) {
					wanted = 1
				}
				what := fmt.Sprint(" ", a, " ", b, " ", moves)
				n, ok := impl.WalksTo(a, b, moves)
				want(t, "WalksTo"+what, n, ok, wanted)
				n, d, ok := impl.ChanceAfter(a, b, moves)
				wantRatio(t, "ChanceAfter"+what, n, d, ok, big.NewRat(int64(wanted), 1))
			}
		}
	}
	for rings := 2; rings <= 12; rings++ {
		end := strings.Repeat("0", rings-1) + "1"
		for a, b := range map[string]string{off(rings): "1" + off(rings-1), end: "1" + end[1:]} {
			n, d, ok := impl.ChanceAfter(a, b, 1)
			wantRatio(t, "ChanceAfter "+a+" "+b, n, d, ok, big.NewRat(1, 1))
			n, d, ok = impl.ChanceAfter(b, a, 1)
			wantRatio(t, "ChanceAfter "+b+" "+a, n, d, ok, big.NewRat(1, 2))
			list, ok := impl.LikeliestAfter(a, 1)
			wantList(t, "LikeliestAfter "+a, list, ok, []string{b})
		}
	}
}

// Far from both ends lists of moves are choices of one of two moves each.
func TestLongestWalks(t *testing.T) {
	line := lineOf(12)
	a := line[2000]
	sum, total := 0, new(big.Rat)
	for up := range 41 {
		b := line[2000-40+2*up]
		wanted := new(big.Int).Binomial(40, int64(up))
		n, ok := impl.WalksTo(a, b, 40)
		want(t, "WalksTo "+a+" "+b, n, ok, int(wanted.Int64()))
		sum += n
		n, d, ok := impl.ChanceAfter(a, b, 40)
		wantRatio(t, "ChanceAfter "+a+" "+b, n, d, ok, new(big.Rat).SetFrac(wanted, big.NewInt(1<<40)))
		total.Add(total, big.NewRat(int64(n), int64(max(d, 1))))
	}
	if sum != 1<<40 || total.Cmp(big.NewRat(1, 1)) != 0 {
		t.Error("all lists are", sum, "and all chances", total)
	}
	list, ok := impl.LikeliestAfter(a, 40)
	wantList(t, "LikeliestAfter "+a+" 40", list, ok, []string{a})
	list, ok = impl.LikeliestAfter(a, 39)
	wantList(t, "LikeliestAfter "+a+" 39", list, ok, []string{line[1999], line[2001]})
}

func TestSeveralLikeliestStates(t *testing.T) {
	for _, c := range []struct {
		s      string
		moves  int
		states []string
	}{
		{"10", 1, []string{"00", "11"}},
		{"11", 1, []string{"10", "01"}},
		{"00", 2, []string{"00", "11"}},
		{"01", 2, []string{"10", "01"}},
		{"110", 1, []string{"100", "010"}},
		{"010", 3, []string{"110", "011"}},
		{off(12), 3, []string{"1" + off(11)}},
	} {
		list, ok := impl.LikeliestAfter(c.s, c.moves)
		wantList(t, fmt.Sprint("LikeliestAfter ", c.s, " ", c.moves), list, ok, c.states)
	}
}

func TestMeanOnAlongAgainstWays(t *testing.T) {
	for rings := 1; rings <= pairedRings; rings++ {
		for _, a := range statesOf(rings) {
			for b, way := range searched(a) {
				states := walked(a, way)
				on := strings.Count(strings.Join(states, ""), "1")
				n, d, ok := impl.MeanOnAlong(a, b)
				wantRatio(t, "MeanOnAlong "+a+" "+b, n, d, ok, big.NewRat(int64(on), int64(len(states))))
			}
		}
	}
}

func TestMeanOnAlongOfManyRings(t *testing.T) {
	for rings := pairedRings + 1; rings <= 12; rings++ {
		line := lineOf(rings)
		for _, i := range numbersOnLine(line) {
			for _, j := range numbersOnLine(line) {
				on := 0
				for _, s := range line[min(i, j) : max(i, j)+1] {
					on += strings.Count(s, "1")
				}
				n, d, ok := impl.MeanOnAlong(line[i], line[j])
				wantRatio(t, "MeanOnAlong "+line[i]+" "+line[j], n, d, ok, big.NewRat(int64(on), int64(max(i, j)-min(i, j)+1)))
			}
		}
		// Of all states as many have a ring on as have it off.
		n, d, ok := impl.MeanOnAlong(line[len(line)-1], line[0])
		wantRatio(t, fmt.Sprint("MeanOnAlong all of ", rings), n, d, ok, big.NewRat(int64(rings), 2))
	}
}

func TestMeanOnAlongToItself(t *testing.T) {
	for rings := 1; rings <= 12; rings++ {
		for _, s := range pairedSamples(rings) {
			n, d, ok := impl.MeanOnAlong(s, s)
			wantRatio(t, "MeanOnAlong itself "+s, n, d, ok, big.NewRat(int64(strings.Count(s, "1")), 1))
		}
	}
	n, d, ok := impl.MeanOnAlong("10", "01")
	wantRatio(t, "MeanOnAlong 10 01", n, d, ok, big.NewRat(4, 3))
	n, d, ok = impl.MeanOnAlong("00", "11")
	wantRatio(t, "MeanOnAlong 00 11", n, d, ok, big.NewRat(1, 1))
}

func TestNumbersOfRingsWithoutMeans(t *testing.T) {
	for _, rings := range noWalkRingCounts {
		n, d, ok := impl.MeanNumber(rings)
		wantNoRatio(t, fmt.Sprint("MeanNumber ", rings), n, d, ok)
		n, d, ok = impl.MeanOfPairs(rings)
		wantNoRatio(t, fmt.Sprint("MeanOfPairs ", rings), n, d, ok)
	}
}

func TestLengthsThatAreNone(t *testing.T) {
	for _, moves := range noWalkLengths {
		for _, s := range []string{"0", "1", "00", "111", off(12), strings.Repeat("0", 11) + "1"} {
			failsForWalks(t, s, s, moves)
			failsForWalks(t, s, flipped(s, 0), moves)
		}
	}
}

// failsForWalks checks what is told of walks of so many moves from a to b.
func failsForWalks(t *testing.T, a, b string, moves int) {
	t.Helper()
	what := fmt.Sprintf(" %.30q %.30q %d", a, b, moves)
	n, ok := impl.WalksTo(a, b, moves)
	wantFail(t, "WalksTo"+what, n, ok)
	n, d, ok := impl.ChanceAfter(a, b, moves)
	wantNoRatio(t, "ChanceAfter"+what, n, d, ok)
	if a == b {
		list, ok := impl.LikeliestAfter(a, moves)
		wantFailList(t, "LikeliestAfter"+what, list, ok)
	}
}

func TestTextsThatAreNotWalked(t *testing.T) {
	for _, s := range noStates {
		what := fmt.Sprintf(" %.30q", s)
		n, ok := impl.MeanToClear(s)
		wantFail(t, "MeanToClear"+what, n, ok)
		for _, other := range []string{"0", "1", "00", "01", "111", off(20), s} {
			failsForMeans(t, s, other)
			failsForMeans(t, other, s)
			failsForTwoWalked(t, s, other)
			failsForTwoWalked(t, other, s)
		}
	}
}

func TestStatesOfMoreRingsThanAreWalked(t *testing.T) {
	for _, s := range unwalked() {
		failsForTwoWalked(t, s, s)
		for _, other := range []string{flipped(s, 0), off(len(s)), off(12), "0"} {
			failsForTwoWalked(t, s, other)
			failsForTwoWalked(t, other, s)
		}
		// They have means and chances.
		number, _ := impl.NumberOfState(s)
		end := 1<<len(s) - 1
		n, ok := impl.MeanToClear(s)
		want(t, "MeanToClear "+s, n, ok, number*(2*end-number))
		n, ok = impl.MeanFrom(off(len(s)), s)
		want(t, "MeanFrom off "+s, n, ok, number*number)
		on, d, ok := impl.ChanceBefore(s, strings.Repeat("0", len(s)-1)+"1", off(len(s)))
		wantRatio(t, "ChanceBefore "+s, on, d, ok, big.NewRat(int64(number), int64(end)))
	}
}

func TestWalkedStatesOfDifferentLengths(t *testing.T) {
	for a := 1; a <= 21; a++ {
		for b := 1; b <= 21; b++ {
			if a != b {
				failsForMeans(t, off(a), off(b))
				failsForMeans(t, strings.Repeat("1", a), strings.Repeat("1", b))
				failsForTwoWalked(t, off(a), off(b))
				failsForTwoWalked(t, strings.Repeat("1", a), strings.Repeat("1", b))
			}
		}
	}
}

// failsForMeans checks what has up to MaxRings rings, of two texts that are not both states of as many.
func failsForMeans(t *testing.T, a, b string) {
	t.Helper()
	what := fmt.Sprintf(" %.30q %.30q", a, b)
	n, ok := impl.MeanFrom(a, b)
	wantFail(t, "MeanFrom"+what, n, ok)
	other := otherOf(b)
	for _, texts := range [][3]string{{a, b, other}, {b, a, other}, {b, other, a}, {a, a, b}, {a, b, a}, {b, a, a}, {a, b, b}, {b, a, b}, {b, b, a}} {
		n, d, ok := impl.ChanceBefore(texts[0], texts[1], texts[2])
		wantNoRatio(t, fmt.Sprintf("ChanceBefore %.30q", texts), n, d, ok)
	}
}

// otherOf returns a text that is another state if s is a state.
func otherOf(s string) string {
	if s == "" {
		return "0"
	}
	return flipped(s, 0)
}

// failsForTwoWalked checks what has up to MaxWalkRings rings.
func failsForTwoWalked(t *testing.T, a, b string) {
	t.Helper()
	for _, moves := range []int{-1, 0, 1, 40, 41} {
		failsForWalks(t, a, b, moves)
	}
	n, d, ok := impl.MeanOnAlong(a, b)
	wantNoRatio(t, fmt.Sprintf("MeanOnAlong %.30q %.30q", a, b), n, d, ok)
}

func TestChanceBeforeOfTheSameState(t *testing.T) {
	for rings := 1; rings <= 20; rings++ {
		for _, a := range pairedSamples(rings) {
			for _, s := range pairedSamples(rings) {
				n, d, ok := impl.ChanceBefore(s, a, a)
				wantNoRatio(t, "ChanceBefore "+s+" "+a+" "+a, n, d, ok)
			}
		}
	}
}

func TestWalksExample(t *testing.T) {
	for number, s := range []string{"00", "10", "11", "01"} {
		n, ok := impl.NumberOfState(s)
		want(t, "NumberOfState "+s, n, ok, number)
	}
	n, ok := impl.MeanToClear("01")
	want(t, "MeanToClear 01", n, ok, 9)
	n, ok = impl.MeanToClear("11")
	want(t, "MeanToClear 11", n, ok, 8)
	n, ok = impl.SumWithOn(2, 1)
	want(t, "SumWithOn 2 1", n, ok, 4)
	n, ok = impl.WalksTo("10", "10", 2)
	want(t, "WalksTo 10 10 2", n, ok, 2)
	n, d, ok := impl.ChanceBefore("10", "00", "01")
	wantRatio(t, "ChanceBefore 10 00 01", n, d, ok, big.NewRat(2, 3))
	n, d, ok = impl.MeanNumber(2)
	wantRatio(t, "MeanNumber 2", n, d, ok, big.NewRat(3, 2))
	n, d, ok = impl.MeanOfPairs(2)
	wantRatio(t, "MeanOfPairs 2", n, d, ok, big.NewRat(5, 4))
	n, d, ok = impl.ChanceAfter("10", "10", 2)
	wantRatio(t, "ChanceAfter 10 10 2", n, d, ok, big.NewRat(3, 4))
	// The console's example asks for these, of three rings.
	n, ok = impl.MeanToClear("010")
	want(t, "MeanToClear 010", n, ok, 33)
}
