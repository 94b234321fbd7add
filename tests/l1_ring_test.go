package tests

import (
	"fmt"
	"math"
	"slices"
	"strings"
	"testing"

	"loop.example/g01314/impl"
)

// Promise 1: moves change one ring and the number by one.

const searchedRings = 9
const pairedRings = 6

var noStates = []string{
	"", " ", "2", "/", "a", "01a", "0 1", " 01", "01 ", "0\n", "\x00", "\xff", "1\xb11", "０", "-1", "+1", "1.0",
	"0\u03011", strings.Repeat("0", 21), strings.Repeat("1", 21), strings.Repeat("01", 2000), strings.Repeat("x", 20),
}

var noRingCounts = []int{math.MinInt, -64, -20, -1, 0, 21, 22, 32, 63, 64, 65, 1000, math.MaxInt}

func TestIsState(t *testing.T) {
	for rings := 1; rings <= searchedRings; rings++ {
		for _, s := range statesOf(rings) {
			if !impl.IsState(s) {
				t.Errorf("%q is a state", s)
			}
		}
	}
	for _, s := range []string{strings.Repeat("0", 20), strings.Repeat("1", 20), strings.Repeat("01", 10)} {
		if !impl.IsState(s) {
			t.Errorf("%q is a state", s)
		}
	}
	for _, s := range noStates {
		if impl.IsState(s) {
			t.Errorf("%q is no state", s)
		}
	}
	for c := range 256 {
		s := "1" + string([]byte{byte(c)})
		if impl.IsState(s) != (c == '0' || c == '1') {
			t.Errorf("IsState %q", s)
		}
	}
}

func TestLimitsAsTold(t *testing.T) {
	if impl.MaxRings != 20 || impl.MaxMoves != 2000 {
		t.Error("limits", impl.MaxRings, impl.MaxMoves)
	}
}

func TestOneStateAgainstSearch(t *testing.T) {
	for rings := 1; rings <= searchedRings; rings++ {
		for s, number := range numbersOf(rings) {
			on, ok := impl.CountOn(s)
			want(t, "CountOn "+s, on, ok, strings.Count(s, "1"))
			n, ok := impl.NumberOfState(s)
			want(t, "NumberOfState "+s, n, ok, number)
			back, ok := impl.StateOfNumber(rings, number)
			want(t, fmt.Sprint("StateOfNumber ", rings, number), back, ok, s)
			var moves []int
			for k := range rings {
				if ruleMoves(s, k) {
					moves = append(moves, k)
				}
			}
			got, ok := impl.MovesOf(s)
			wantList(t, "MovesOf "+s, got, ok, moves)
		}
	}
}

func TestMoveChangesOneRingAndNumberByOne(t *testing.T) {
	for rings := 1; rings <= searchedRings; rings++ {
		for _, s := range statesOf(rings) {
			number, _ := impl.NumberOfState(s)
			for k := -2; k <= rings+2; k++ {
				what := fmt.Sprint("MoveRing ", s, " ", k)
				next, ok := impl.MoveRing(s, k)
				if !ruleMoves(s, k) {
					wantFail(t, what, next, ok)
					continue
				}
				want(t, what, next, ok, flipped(s, k))
				n, ok := impl.NumberOfState(next)
				if !ok || n != number+1 && n != number-1 {
					t.Errorf("%s: the number %d becomes %d", what, number, n)
				}
				back, ok := impl.MoveRing(next, k)
				want(t, what+" and back", back, ok, s)
			}
		}
	}
}

func TestMoveRingRingsThatThereAreNot(t *testing.T) {
	for _, s := range []string{"0", "1", "01", "111", "000", strings.Repeat("0", 19) + "1", strings.Repeat("1", 20)} {
		for _, k := range []int{math.MinInt, math.MinInt + 1, -64, -1, len(s), len(s) + 1, 63, 64, 65, math.MaxInt} {
			next, ok := impl.MoveRing(s, k)
			wantFail(t, fmt.Sprint("MoveRing ", s, " ", k), next, ok)
		}
	}
}

func TestFarthestFrom(t *testing.T) {
	for rings := 1; rings <= pairedRings; rings++ {
		numbers := numbersOf(rings)
		for _, s := range statesOf(rings) {
			var far []string
			moves := 0
			for to, way := range searched(s) {
				if len(way) > moves {
					far, moves = nil, len(way)
				}
				if len(way) == moves {
					far = append(far, to)
				}
			}
			slices.SortFunc(far, func(a, b string) int { return numbers[a] - numbers[b] })
			got, n, ok := impl.FarthestFrom(s)
			wantList(t, "FarthestFrom "+s, got, ok, far)
			want(t, "FarthestFrom "+s, n, ok, moves)
		}
	}
}

func TestTwoStatesAgainstSearch(t *testing.T) {
	for rings := 1; rings <= pairedRings; rings++ {
		for _, a := range statesOf(rings) {
			for b, way := range searched(a) {
				checkWay(t, a, b, way)
			}
		}
	}
}

func checkWay(t *testing.T, a, b string, way []int) {
	t.Helper()
	pair := " " + a + " " + b
	states := walked(a, way)
	times := make([]int, len(a))
	for _, k := range way {
		times[k]++
	}
	n, ok := impl.FewestMoves(a, b)
	want(t, "FewestMoves"+pair, n, ok, len(way))
	moves, ok := impl.WayTo(a, b)
	wantList(t, "WayTo"+pair, moves, ok, way)
	first, ok := impl.NextMove(a, b)
	if len(way) == 0 {
		wantFail(t, "NextMove"+pair, first, ok)
	} else {
		want(t, "NextMove"+pair, first, ok, way[0])
	}
	between, ok := impl.StatesBetween(a, b)
	wantList(t, "StatesBetween"+pair, between, ok, states)
	middle, ok := impl.MiddleOf(a, b)
	want(t, "MiddleOf"+pair, middle, ok, states[len(way)/2])
	moved, ok := impl.TimesMoved(a, b)
	wantList(t, "TimesMoved"+pair, moved, ok, times)
	end, ok := impl.PlayMoves(a, way)
	want(t, "PlayMoves"+pair, end, ok, b)
	failing, ok := impl.MoveThatFails(a, way)
	wantFail(t, "MoveThatFails"+pair, failing, ok)
}

func TestBarOfOneRing(t *testing.T) {
	moves, ok := impl.MovesOf("0")
	wantList(t, "MovesOf 0", moves, ok, []int{0})
	moves, ok = impl.MovesOf("1")
	wantList(t, "MovesOf 1", moves, ok, []int{0})
	s, ok := impl.AllOn(1)
	want(t, "AllOn 1", s, ok, "1")
	s, ok = impl.OtherEnd(1)
	want(t, "OtherEnd 1", s, ok, "1")
	n, ok := impl.MovesToClear(1)
	want(t, "MovesToClear 1", n, ok, 1)
	s, ok = impl.StateOfNumber(1, 2)
	wantFail(t, "StateOfNumber 1 2", s, ok)
	far, n, ok := impl.FarthestFrom("0")
	wantList(t, "FarthestFrom 0", far, ok, []string{"1"})
	want(t, "FarthestFrom 0", n, ok, 1)
}

func TestStatesOfSoManyRings(t *testing.T) {
	clear := 0
	for rings := 1; rings <= 20; rings++ {
		on, ok := impl.AllOn(rings)
		want(t, fmt.Sprint("AllOn ", rings), on, ok, strings.Repeat("1", rings))
		end, ok := impl.OtherEnd(rings)
		want(t, fmt.Sprint("OtherEnd ", rings), end, ok, strings.Repeat("0", rings-1)+"1")
		// 1, 2, 5, 10, 21, ..: twice the one before, and one more for odd numbers.
		clear = 2*clear + rings%2
		n, ok := impl.MovesToClear(rings)
		want(t, fmt.Sprint("MovesToClear ", rings), n, ok, clear)
		n, ok = impl.NumberOfState(on)
		want(t, "NumberOfState "+on, n, ok, clear)
		n, ok = impl.NumberOfState(end)
		want(t, "NumberOfState "+end, n, ok, 1<<rings-1)
		s, ok := impl.StateOfNumber(rings, 0)
		want(t, fmt.Sprint("StateOfNumber ", rings, " 0"), s, ok, off(rings))
		s, ok = impl.StateOfNumber(rings, 1<<rings-1)
		want(t, fmt.Sprint("StateOfNumber ", rings, " greatest"), s, ok, end)
		for _, number := range []int{math.MinInt, -1, 1 << rings, 1<<rings + 1, 1 << 32, 1 << 62, math.MaxInt} {
			s, ok = impl.StateOfNumber(rings, number)
			wantFail(t, fmt.Sprint("StateOfNumber ", rings, number), s, ok)
		}
	}
}

func TestNumbersOfRingsThatThereAreNot(t *testing.T) {
	for _, rings := range noRingCounts {
		s, ok := impl.AllOn(rings)
		wantFail(t, fmt.Sprint("AllOn ", rings), s, ok)
		s, ok = impl.OtherEnd(rings)
		wantFail(t, fmt.Sprint("OtherEnd ", rings), s, ok)
		n, ok := impl.MovesToClear(rings)
		wantFail(t, fmt.Sprint("MovesToClear ", rings), n, ok)
		for _, number := range []int{-1, 0, 1, math.MaxInt} {
			s, ok = impl.StateOfNumber(rings, number)
			wantFail(t, fmt.Sprint("StateOfNumber ", rings, number), s, ok)
		}
	}
}

// The moves along the whole line of the longest bar, by the rule alone.
func TestLineOfMostRings(t *testing.T) {
	at, last := off(20), -1
	for number := range 1 << 20 {
		n, ok := impl.NumberOfState(at)
		s, fine := impl.StateOfNumber(20, number)
		if !ok || !fine || n != number || s != at {
			t.Fatalf("%s: number %d, want %d, its state %s", at, n, number, s)
		}
		for k := range 20 {
			if k != last && ruleMoves(at, k) {
				at, last = flipped(at, k), k
				break
			}
		}
	}
}

func TestLongWays(t *testing.T) {
	all, end, none := strings.Repeat("1", 20), strings.Repeat("0", 19)+"1", off(20)
	n, ok := impl.FewestMoves(none, end)
	want(t, "FewestMoves", n, ok, 1<<20-1)
	n, ok = impl.FewestMoves(end, all)
	want(t, "FewestMoves", n, ok, 1<<20-1-699050)
	k, ok := impl.NextMove(end, none)
	want(t, "NextMove", k, ok, 0)
	k, ok = impl.NextMove(all, none)
	want(t, "NextMove", k, ok, 1)
	k, ok = impl.NextMove(all, end)
	want(t, "NextMove", k, ok, 0)
	s, ok := impl.MiddleOf(none, end)
	want(t, "MiddleOf", s, ok, strings.Repeat("0", 18)+"10")
	s, ok = impl.MiddleOf(end, none)
	want(t, "MiddleOf", s, ok, strings.Repeat("0", 18)+"11")
	times, ok := impl.TimesMoved(end, none)
	var halves []int
	for left := 1 << 19; left > 0; left /= 2 {
		halves = append(halves, left)
	}
	wantList(t, "TimesMoved", times, ok, halves)
	far, n, ok := impl.FarthestFrom(all)
	wantList(t, "FarthestFrom", far, ok, []string{none})
	want(t, "FarthestFrom", n, ok, 699050)
	far, n, ok = impl.FarthestFrom(none)
	wantList(t, "FarthestFrom", far, ok, []string{end})
	want(t, "FarthestFrom", n, ok, 1<<20-1)
	way, ok := impl.WayTo(all, none)
	wantFailList(t, "WayTo", way, ok)
	states, ok := impl.StatesBetween(none, end)
	wantFailList(t, "StatesBetween", states, ok)
}

// Ways of as many moves, or states, as there may be, and of one more.
func TestLimitsOfWays(t *testing.T) {
	for _, rings := range []int{11, 12, 20} {
		for _, first := range []int{0, 1, 5} {
			for _, moves := range []int{1998, 1999, 2000, 2001, 2002} {
				if first+moves > 1<<rings-1 {
					continue
				}
				a, _ := impl.StateOfNumber(rings, first)
				b, _ := impl.StateOfNumber(rings, first+moves)
				checkLongWay(t, a, b, moves)
				checkLongWay(t, b, a, moves)
			}
		}
	}
}

func checkLongWay(t *testing.T, a, b string, moves int) {
	t.Helper()
	what := fmt.Sprint(a, " ", b, " ", moves)
	way, ok := impl.WayTo(a, b)
	if moves > 2000 {
		wantFailList(t, "WayTo "+what, way, ok)
	} else {
		end, fine := impl.PlayMoves(a, way)
		want(t, "WayTo "+what, len(way), ok, moves)
		want(t, "PlayMoves of WayTo "+what, end, fine, b)
	}
	states, ok := impl.StatesBetween(a, b)
	if moves > 1999 {
		wantFailList(t, "StatesBetween "+what, states, ok)
	} else {
		wantList(t, "StatesBetween "+what, states, ok, walked(a, way))
	}
}

func TestPlayMoves(t *testing.T) {
	for _, c := range []struct {
		s     string
		moves []int
		end   string
		fails int // -1 if all moves can be made
	}{
		{"111", nil, "111", -1},
		{"0", []int{}, "0", -1},
		{"111", []int{0, 2, 0, 1, 0}, "000", -1},
		{"000", []int{0, 1, 0, 2}, "011", -1},
		{"1", []int{0, 0, 0}, "0", -1},
		{"111", []int{2}, "", 0},
		{"111", []int{3}, "", 0},
		{"111", []int{-1}, "", 0},
		{"001", []int{3}, "", 0},
		{"111", []int{0, 2, 1}, "", 2},
		{"111", []int{0, 2, 0, 2, 9}, "", 3},
		{"000", []int{0, 1, math.MinInt, 0}, "", 2},
		{"000", []int{0, 1, 0, math.MaxInt}, "", 3},
		{"0", []int{0, 1}, "", 1},
	} {
		what := fmt.Sprint(c.s, c.moves)
		end, ok := impl.PlayMoves(c.s, c.moves)
		k, fails := impl.MoveThatFails(c.s, c.moves)
		if c.fails < 0 {
			want(t, "PlayMoves "+what, end, ok, c.end)
			wantFail(t, "MoveThatFails "+what, k, fails)
		} else {
			wantFail(t, "PlayMoves "+what, end, ok)
			want(t, "MoveThatFails "+what, k, fails, c.fails)
		}
	}
}

func TestMostMoves(t *testing.T) {
	moves := make([]int, 2000)
	s, ok := impl.PlayMoves("111", moves)
	want(t, "PlayMoves of 2000", s, ok, "111")
	k, ok := impl.MoveThatFails("111", moves)
	wantFail(t, "MoveThatFails of 2000", k, ok)
	moves[1999] = 2
	s, ok = impl.PlayMoves("111", moves)
	want(t, "PlayMoves of 2000", s, ok, "010")
	moves[1999] = 1
	moves[1998] = 1
	moves[1997] = 5
	k, ok = impl.MoveThatFails("111", moves)
	want(t, "MoveThatFails of 2000", k, ok, 1997)

	for _, more := range []int{2001, 2002, 100000} {
		moves = make([]int, more)
		s, ok = impl.PlayMoves("111", moves)
		wantFail(t, "PlayMoves of too many", s, ok)
		moves[0] = 2
		k, ok = impl.MoveThatFails("111", moves)
		wantFail(t, "MoveThatFails of too many", k, ok)
		moves[0], moves[1] = 0, 7
		k, ok = impl.MoveThatFails("111", moves)
		wantFail(t, "MoveThatFails of too many", k, ok)
		text, ok := impl.MovesText(moves)
		wantFail(t, "MovesText of too many", text, ok)
	}
}

func TestTextsThatAreNoStates(t *testing.T) {
	for _, s := range noStates {
		what := fmt.Sprintf(" %.30q", s)
		n, ok := impl.CountOn(s)
		wantFail(t, "CountOn"+what, n, ok)
		l, ok := impl.MovesOf(s)
		wantFailList(t, "MovesOf"+what, l, ok)
		text, ok := impl.MoveRing(s, 0)
		wantFail(t, "MoveRing"+what, text, ok)
		text, ok = impl.PlayMoves(s, []int{0})
		wantFail(t, "PlayMoves"+what, text, ok)
		text, ok = impl.PlayMoves(s, nil)
		wantFail(t, "PlayMoves"+what, text, ok)
		n, ok = impl.MoveThatFails(s, []int{0, 30})
		wantFail(t, "MoveThatFails"+what, n, ok)
		n, ok = impl.NumberOfState(s)
		wantFail(t, "NumberOfState"+what, n, ok)
		states, n, ok := impl.FarthestFrom(s)
		wantFailList(t, "FarthestFrom"+what, states, ok)
		wantFail(t, "FarthestFrom"+what, n, ok)
		for _, good := range []string{"0", "111", off(20)} {
			failsForTwo(t, s, good)
			failsForTwo(t, good, s)
		}
		failsForTwo(t, s, s)
	}
}

func TestStatesOfDifferentLengths(t *testing.T) {
	for a := 1; a <= 20; a++ {
		for b := 1; b <= 20; b++ {
			if a != b {
				failsForTwo(t, off(a), off(b))
				failsForTwo(t, strings.Repeat("1", a), strings.Repeat("1", b))
			}
		}
	}
}

func failsForTwo(t *testing.T, a, b string) {
	t.Helper()
	what := fmt.Sprintf(" %.30q %.30q", a, b)
	n, ok := impl.FewestMoves(a, b)
	wantFail(t, "FewestMoves"+what, n, ok)
	n, ok = impl.NextMove(a, b)
	wantFail(t, "NextMove"+what, n, ok)
	way, ok := impl.WayTo(a, b)
	wantFailList(t, "WayTo"+what, way, ok)
	states, ok := impl.StatesBetween(a, b)
	wantFailList(t, "StatesBetween"+what, states, ok)
	s, ok := impl.MiddleOf(a, b)
	wantFail(t, "MiddleOf"+what, s, ok)
	times, ok := impl.TimesMoved(a, b)
	wantFailList(t, "TimesMoved"+what, times, ok)
}

func TestTwoStatesThatAreTheSame(t *testing.T) {
	for rings := 1; rings <= 20; rings++ {
		for _, s := range []string{off(rings), strings.Repeat("1", rings), strings.Repeat("0", rings-1) + "1"} {
			checkWay(t, s, s, nil)
		}
	}
}

func TestMovesTexts(t *testing.T) {
	all := make([]int, 20)
	for k := range all {
		all[k] = k
	}
	for _, c := range []struct {
		moves []int
		text  string
	}{
		{nil, ""},
		{[]int{0}, "a"},
		{[]int{19}, "t"},
		{[]int{0, 2, 0, 1, 0}, "acaba"},
		{[]int{0, 0, 0}, "aaa"}, // a text tells any rings, whether they can be moved or not
		{all, "abcdefghijklmnopqrst"},
		{make([]int, 2000), strings.Repeat("a", 2000)},
	} {
		text, ok := impl.MovesText(c.moves)
		want(t, "MovesText", text, ok, c.text)
		moves, ok := impl.ParseMoves(c.text)
		wantList(t, "ParseMoves", moves, ok, c.moves)
	}
	for _, k := range []int{math.MinInt, -97, -1, 20, 21, 25, 255, 256, 276, math.MaxInt} {
		for _, moves := range [][]int{{k}, {0, k}, {k, 19}} {
			text, ok := impl.MovesText(moves)
			wantFail(t, fmt.Sprint("MovesText ", moves), text, ok)
		}
	}
}

func TestTextsOfNoMoves(t *testing.T) {
	for c := range 256 {
		for _, s := range []string{string([]byte{byte(c)}), "a" + string([]byte{byte(c)}), string([]byte{byte(c)}) + "t"} {
			moves, ok := impl.ParseMoves(s)
			if c < 'a' || c > 't' {
				wantFailList(t, fmt.Sprintf("ParseMoves %q", s), moves, ok)
			} else if !ok || len(moves) != len(s) {
				t.Errorf("ParseMoves %q: %v %v", s, moves, ok)
			}
		}
	}
	for _, s := range []string{"-", " ", "a ", "a,b", "é", strings.Repeat("a", 2001), strings.Repeat("t", 100000)} {
		moves, ok := impl.ParseMoves(s)
		wantFailList(t, fmt.Sprintf("ParseMoves %.30q", s), moves, ok)
	}
}

func TestRingsExample(t *testing.T) {
	moves, ok := impl.MovesOf("111")
	wantList(t, "MovesOf", moves, ok, []int{0, 1})
	n, ok := impl.NumberOfState("111")
	want(t, "NumberOfState", n, ok, 5)
	way, ok := impl.WayTo("111", "000")
	wantList(t, "WayTo", way, ok, []int{0, 2, 0, 1, 0})
	text, ok := impl.MovesText(way)
	want(t, "MovesText", text, ok, "acaba")
	states, ok := impl.StatesBetween("111", "000")
	wantList(t, "StatesBetween", states, ok, []string{"111", "011", "010", "110", "100", "000"})
	n, ok = impl.MovesToClear(4)
	want(t, "MovesToClear", n, ok, 10)
	far, n, ok := impl.FarthestFrom("111")
	wantList(t, "FarthestFrom", far, ok, []string{"000"})
	want(t, "FarthestFrom", n, ok, 5)
	s, ok := impl.OtherEnd(3)
	want(t, "OtherEnd", s, ok, "001")
	n, ok = impl.NumberOfState(s)
	want(t, "NumberOfState", n, ok, 7)
}
