package tests

import (
	"fmt"
	"math"
	"math/big"
	"math/rand"
	"slices"
	"strings"
	"testing"

	"loop.example/g01314/impl"
)

// Promise 5: keys of the bar move rings as the bar does, along a line.

// keysWhere returns keys of so many rings, in which sign tells the sign that
// the key of a ring has for another one.
func keysWhere(rings int, sign func(k, other int) byte) []string {
	var keys []string
	for k := range rings {
		signs := []byte(strings.Repeat("?", rings))
		for other := range signs {
			if other != k {
				signs[other] = sign(k, other)
			}
		}
		keys = append(keys, string(signs))
	}
	return keys
}

// barSign is the sign of the keys of a bar.
func barSign(k, other int) byte {
	switch {
	case other > k:
		return '?'
	case other == k-1:
		return '1'
	}
	return '0'
}

func barKeysOf(rings int) []string {
	return keysWhere(rings, barSign)
}

func freeKeysOf(rings int) []string {
	return keysWhere(rings, func(k, other int) byte { return '?' })
}

// lockedKeys let a ring be moved just if all others are on.
func lockedKeys(rings int) []string {
	return keysWhere(rings, func(k, other int) byte { return '1' })
}

// twoBars are keys of two bars that do not care for each other.
func twoBars(first, second int) []string {
	return keysWhere(first+second, func(k, other int) byte {
		if k >= first && other >= first {
			return barSign(k-first, other-first)
		}
		if k < first && other < first {
			return barSign(k, other)
		}
		return '?'
	})
}

// gatedKeys are those of a bar and of free rings behind it: these must be off
// for its ring 0 to be moved, and on for its other ones, which come in turn, so
// that from each of its moves to the next one all free rings are moved.
func gatedKeys(rings, free int) []string {
	return keysWhere(rings+free, func(k, other int) byte {
		switch {
		case k >= rings:
			return '?'
		case other < rings:
			return barSign(k, other)
		case k == 0:
			return '0'
		}
		return '1'
	})
}

// allKeys returns all keys of so many rings.
func allKeys(rings int) [][]string {
	list := [][]string{nil}
	for k := range rings {
		var longer [][]string
		for _, keys := range list {
			for _, signs := range keyTexts(rings, k) {
				longer = append(longer, append(slices.Clone(keys), signs))
			}
		}
		list = longer
	}
	return list
}

// keyTexts returns all keys that the ring k of so many rings can have.
func keyTexts(rings, k int) []string {
	list := []string{""}
	for place := range rings {
		var longer []string
		for _, s := range list {
			for _, sign := range []string{"0", "1", "?"} {
				if place != k || sign == "?" {
					longer = append(longer, s+sign)
				}
			}
		}
		list = longer
	}
	return list
}

// mixedKeys tell about one of so many signs.
func mixedKeys(random *rand.Rand, rings, oneOf int) []string {
	return keysWhere(rings, func(k, other int) byte {
		if random.Intn(oneOf) > 0 {
			return '?'
		}
		return '0' + byte(random.Intn(2))
	})
}

// keysOfFewRings are all keys of up to 3 rings, and keys of 4 and 5 of all sorts, the same ones in each run.
func keysOfFewRings() [][]string {
	list := slices.Concat(allKeys(1), allKeys(2), allKeys(3))
	random := rand.New(rand.NewSource(5))
	for i := range 60 {
		list = append(list, mixedKeys(random, 4, 1+i%4))
	}
	for i := range 12 {
		list = append(list, mixedKeys(random, 5, 2+i%4))
	}
	return append(list, barKeysOf(4), freeKeysOf(4), lockedKeys(4), twoBars(2, 2), gatedKeys(3, 1), gatedKeys(2, 2),
		barKeysOf(5), lockedKeys(5), twoBars(2, 3), gatedKeys(3, 2))
}

// keysOfManyRings have 6 up to MaxKeyed rings, with one part and with many.
func keysOfManyRings() [][]string {
	random := rand.New(rand.NewSource(55))
	list := [][]string{gatedKeys(6, 2), twoBars(3, 4), freeKeysOf(7), lockedKeys(8)}
	for _, rings := range []int{6, 7, 8} {
		list = append(list, mixedKeys(random, rings, 3), mixedKeys(random, rings, 6))
	}
	return append(list, keysOfMostRings()...)
}

func keysOfMostRings() [][]string {
	random := rand.New(rand.NewSource(10))
	return [][]string{barKeysOf(10), freeKeysOf(10), lockedKeys(10), gatedKeys(8, 2), gatedKeys(7, 3), twoBars(5, 5), twoBars(4, 6),
		mixedKeys(random, 10, 2), mixedKeys(random, 10, 4), mixedKeys(random, 10, 5), mixedKeys(random, 9, 6)}
}

// keysName tells of keys, of which there may be very many, by the first few.
func keysName(keys []string) string {
	return fmt.Sprintf(" %.100q", keys[:min(len(keys), 11)])
}

func TestChapter5LimitAsTold(t *testing.T) {
	if impl.MaxKeyed != 10 {
		t.Error("limit", impl.MaxKeyed)
	}
}

func TestKeysAgainstRules(t *testing.T) {
	for _, keys := range keysOfFewRings() {
		checkKeyedFacts(t, keys)
	}
	for _, keys := range keysOfManyRings() {
		if len(keys) <= 8 {
			checkKeyedFacts(t, keys)
		}
	}
}

func checkKeyedFacts(t *testing.T, keys []string) {
	t.Helper()
	what := keysName(keys)
	if !impl.AreKeys(keys) {
		t.Errorf("AreKeys%s is false", what)
	}
	facts := ruleKeyedFacts(keys)
	n, ok := impl.PartsByKeys(keys)
	want(t, "PartsByKeys"+what, n, ok, facts.parts)
	n, ok = impl.LinksByKeys(keys)
	want(t, "LinksByKeys"+what, n, ok, facts.links)
	n, ok = impl.LongestByKeys(keys)
	want(t, "LongestByKeys"+what, n, ok, facts.longest)
	isLine, ok := impl.IsLineOfStates(keys)
	want(t, "IsLineOfStates"+what, isLine, ok, facts.isLine)
	// Just along a line so many moves can be needed that they lead over all states.
	want(t, "IsLineOfStates and LongestByKeys"+what, isLine, ok, n == 1<<len(keys)-1)
}

func TestMovesByKeysAgainstRules(t *testing.T) {
	for _, keys := range keysOfFewRings() {
		for _, s := range statesOf(len(keys)) {
			checkKeyedMoves(t, keys, s)
			checkReachedByKeys(t, keys, s)
		}
	}
	for _, keys := range keysOfManyRings() {
		for i, s := range statesOf(len(keys)) {
			if i%7 == 0 {
				checkKeyedMoves(t, keys, s)
			}
			if i%97 == 0 {
				checkReachedByKeys(t, keys, s)
			}
		}
	}
}

func checkKeyedMoves(t *testing.T, keys []string, s string) {
	t.Helper()
	what := keysName(keys) + " " + s
	moves, ok := impl.KeyedMoves(keys, s)
	wantList(t, "KeyedMoves"+what, moves, ok, ruleKeyedMoves(keys, s))
	for k := range keys {
		what := fmt.Sprint(what, " ", k)
		fits, ok := impl.FitsKey(keys, s, k)
		want(t, "FitsKey"+what, fits, ok, ruleFits(keys, s, k))
		next, ok := impl.MoveKeyed(keys, s, k)
		if !fits {
			wantFail(t, "MoveKeyed"+what, next, ok)
			continue
		}
		want(t, "MoveKeyed"+what, next, ok, flipped(s, k))
		back, ok := impl.MoveKeyed(keys, next, k)
		want(t, "MoveKeyed back"+what, back, ok, s)
	}
	for _, k := range noRings(len(keys)) {
		what := fmt.Sprint(what, " ", k)
		fits, ok := impl.FitsKey(keys, s, k)
		wantFail(t, "FitsKey"+what, fits, ok)
		next, ok := impl.MoveKeyed(keys, s, k)
		wantFail(t, "MoveKeyed"+what, next, ok)
	}
}

// noRings are rings that there are not.
func noRings(rings int) []int {
	return []int{math.MinInt, -64, -2, -1, rings, rings + 1, 11, 20, 63, 64, 1 << 32, math.MaxInt}
}

func checkReachedByKeys(t *testing.T, keys []string, s string) {
	t.Helper()
	what := keysName(keys) + " " + s
	ways := keyedWaysFrom(keys, s)
	n, ok := impl.CountReachedBy(keys, s)
	want(t, "CountReachedBy"+what, n, ok, len(ways))
	far, most := farthestOf(ways)
	state, n, ok := impl.FarthestByKeys(keys, s)
	want(t, "FarthestByKeys"+what, state, ok, far)
	want(t, "FarthestByKeys"+what, n, ok, most)
}

func TestTwoStatesByKeysAgainstAllLists(t *testing.T) {
	for _, keys := range keysOfFewRings() {
		states := statesOf(len(keys))
		for _, a := range states {
			lists := keyedLists(keys, a)
			for _, b := range states {
				if all, reached := lists[b]; reached {
					checkKeyedWay(t, keys, a, b, keyedWays{first: all[0], count: big.NewInt(int64(len(all)))})
				} else {
					checkNoKeyedWay(t, keys, a, b)
				}
			}
		}
	}
}

func TestTwoStatesOfManyRingsAgainstSearch(t *testing.T) {
	for _, keys := range keysOfManyRings() {
		states := statesOf(len(keys))
		for i := 0; i < len(states); i += len(states)/3 - 1 {
			ways := keyedWaysFrom(keys, states[i])
			for j := i % 31; j < len(states); j += 31 {
				if way, reached := ways[states[j]]; reached {
					checkKeyedWay(t, keys, states[i], states[j], way)
				} else {
					checkNoKeyedWay(t, keys, states[i], states[j])
				}
			}
		}
	}
}

// checkKeyedWay compares what is told of two states of one part with the ways there are.
func checkKeyedWay(t *testing.T, keys []string, a, b string, ways keyedWays) {
	t.Helper()
	what := keysName(keys) + " " + a + " " + b
	n, ok := impl.FewestKeyed(keys, a, b)
	want(t, "FewestKeyed"+what, n, ok, len(ways.first))
	list, ok := impl.FirstKeyed(keys, a, b)
	wantList(t, "FirstKeyed"+what, list, ok, ways.first)
	n, ok = impl.CountKeyedWays(keys, a, b)
	if ways.count.IsInt64() {
		want(t, "CountKeyedWays"+what, n, ok, int(ways.count.Int64()))
	} else {
		wantFail(t, "CountKeyedWays"+what, n, ok)
	}
	at := a
	for _, k := range list {
		if at, ok = impl.MoveKeyed(keys, at, k); !ok {
			t.Fatalf("FirstKeyed%s: %v cannot be made", what, list)
		}
	}
	want(t, "MoveKeyed all along"+what, at, true, b)
}

// checkNoKeyedWay checks two states of different parts.
func checkNoKeyedWay(t *testing.T, keys []string, a, b string) {
	t.Helper()
	what := keysName(keys) + " " + a + " " + b
	n, ok := impl.FewestKeyed(keys, a, b)
	wantFail(t, "FewestKeyed"+what, n, ok)
	list, ok := impl.FirstKeyed(keys, a, b)
	wantFailList(t, "FirstKeyed"+what, list, ok)
	n, ok = impl.CountKeyedWays(keys, a, b)
	want(t, "CountKeyedWays"+what, n, ok, 0)
}

func TestStatesByKeysThatAreTheSame(t *testing.T) {
	for _, keys := range keysOfManyRings() {
		for i, s := range statesOf(len(keys)) {
			if i%73 == 0 {
				checkKeyedWay(t, keys, s, s, keyedWays{count: big.NewInt(1)})
			}
		}
	}
}

// In a state from which no ring can be moved there are no moves, but that is
// no failure: the state is a part by itself.
func TestStatesThatCannotBeLeft(t *testing.T) {
	for _, c := range []struct{ text, s string }{
		{"?1/1?", "00"}, {"?0/0?", "11"}, {"?1/0?", "10"}, {"?0/1?", "01"},
		{"?11/1?1/11?", "100"}, {"?11/1?1/11?", "000"}, {"?00/0?0/00?", "110"}, {"?0?/??0/0??", "111"},
	} {
		if moves := ruleKeyedMoves(keysOfText(c.text), c.s); len(moves) > 0 {
			t.Fatal("the test is wrong:", c.text, c.s, moves)
		}
		checkStateThatCannotBeLeft(t, keysOfText(c.text), c.s)
	}
	for _, keys := range append(keysOfFewRings(), keysOfMostRings()...) {
		for i, s := range statesOf(len(keys)) {
			if (i < 32 || i%101 == 0) && len(ruleKeyedMoves(keys, s)) == 0 {
				checkStateThatCannotBeLeft(t, keys, s)
			}
		}
	}
}

func checkStateThatCannotBeLeft(t *testing.T, keys []string, s string) {
	t.Helper()
	what := keysName(keys) + " " + s
	moves, ok := impl.KeyedMoves(keys, s)
	wantList(t, "KeyedMoves"+what, moves, ok, nil)
	for k := range keys {
		fits, ok := impl.FitsKey(keys, s, k)
		want(t, fmt.Sprint("FitsKey", what, " ", k), fits, ok, false)
		next, ok := impl.MoveKeyed(keys, s, k)
		wantFail(t, fmt.Sprint("MoveKeyed", what, " ", k), next, ok)
		checkNoKeyedWay(t, keys, s, flipped(s, k))
		checkNoKeyedWay(t, keys, flipped(s, k), s)
	}
	checkKeyedWay(t, keys, s, s, keyedWays{count: big.NewInt(1)})
	n, ok := impl.CountReachedBy(keys, s)
	want(t, "CountReachedBy"+what, n, ok, 1)
	far, n, ok := impl.FarthestByKeys(keys, s)
	want(t, "FarthestByKeys"+what, far, ok, s)
	want(t, "FarthestByKeys"+what, n, ok, 0)
	isLine, ok := impl.IsLineOfStates(keys)
	want(t, "IsLineOfStates"+what, isLine, ok, false)
}

func TestStatesThatCannotBeLeftByLockedKeys(t *testing.T) {
	for rings := 2; rings <= 10; rings++ {
		// From the state in which all are on each ring can be moved, and then no other one.
		wantKeyedFacts(t, lockedKeys(rings), keyedFacts{parts: 1<<rings - rings, longest: 2, links: rings, isLine: false})
	}
}

func wantKeyedFacts(t *testing.T, keys []string, facts keyedFacts) {
	t.Helper()
	what := keysName(keys)
	n, ok := impl.PartsByKeys(keys)
	want(t, "PartsByKeys"+what, n, ok, facts.parts)
	n, ok = impl.LongestByKeys(keys)
	want(t, "LongestByKeys"+what, n, ok, facts.longest)
	n, ok = impl.LinksByKeys(keys)
	want(t, "LinksByKeys"+what, n, ok, facts.links)
	isLine, ok := impl.IsLineOfStates(keys)
	want(t, "IsLineOfStates"+what, isLine, ok, facts.isLine)
}

func TestBarKeys(t *testing.T) {
	for rings, text := range map[int]string{
		1: "?",
		2: "??/1?",
		3: "???/1??/01?",
		4: "????/1???/01??/001?",
		5: "?????/1????/01???/001??/0001?",
		10: "??????????/1?????????/01????????/001???????/0001??????/00001?????/" +
			"000001????/0000001???/00000001??/000000001?",
	} {
		keys, ok := impl.BarKeys(rings)
		wantList(t, fmt.Sprint("BarKeys ", rings), keys, ok, strings.Split(text, "/"))
	}
	for rings := 1; rings <= 10; rings++ {
		keys, ok := impl.BarKeys(rings)
		wantList(t, fmt.Sprint("BarKeys ", rings), keys, ok, barKeysOf(rings))
		wantKeyedFacts(t, keys, keyedFacts{parts: 1, longest: 1<<rings - 1, links: 1<<rings - 1, isLine: true})
	}
	for _, rings := range []int{math.MinInt, -10, -1, 0, 11, 12, 20, 64, 1 << 32, math.MaxInt} {
		keys, ok := impl.BarKeys(rings)
		wantFailList(t, fmt.Sprint("BarKeys ", rings), keys, ok)
	}
}

func TestBarKeysMoveRingsAsTheBarDoes(t *testing.T) {
	for rings := 1; rings <= 10; rings++ {
		keys, _ := impl.BarKeys(rings)
		for _, s := range statesOf(rings) {
			what := fmt.Sprint(" of a bar ", s)
			moves, ok := impl.KeyedMoves(keys, s)
			barMoves, _ := impl.MovesOf(s)
			wantList(t, "KeyedMoves"+what, moves, ok, barMoves)
			for k := range rings {
				next, ok := impl.MoveKeyed(keys, s, k)
				barNext, fine := impl.MoveRing(s, k)
				if next != barNext || ok != fine {
					t.Errorf("MoveKeyed%s %d: got %s, %v, want %s, %v", what, k, next, ok, barNext, fine)
				}
			}
		}
	}
}

func TestBarKeysLeadAlongALine(t *testing.T) {
	for rings := 1; rings <= 10; rings++ {
		keys, _ := impl.BarKeys(rings)
		states := statesOf(rings)
		step := 1 + len(states)/40
		for i := 0; i < len(states); i += step {
			a := states[i]
			far, n, ok := impl.FarthestByKeys(keys, a)
			barFar, barMost, _ := impl.FarthestFrom(a)
			want(t, "FarthestByKeys of a bar "+a, far, ok, barFar[0])
			want(t, "FarthestByKeys of a bar "+a, n, ok, barMost)
			n, ok = impl.CountReachedBy(keys, a)
			want(t, "CountReachedBy of a bar "+a, n, ok, len(states))
			for j := 0; j < len(states); j += step {
				checkWayOfBar(t, keys, a, states[j])
			}
		}
	}
}

func checkWayOfBar(t *testing.T, keys []string, a, b string) {
	t.Helper()
	n, ok := impl.FewestKeyed(keys, a, b)
	barMoves, _ := impl.FewestMoves(a, b)
	want(t, "FewestKeyed of a bar "+a+" "+b, n, ok, barMoves)
	way, ok := impl.FirstKeyed(keys, a, b)
	barWay, _ := impl.WayTo(a, b)
	wantList(t, "FirstKeyed of a bar "+a+" "+b, way, ok, barWay)
	n, ok = impl.CountKeyedWays(keys, a, b)
	want(t, "CountKeyedWays of a bar "+a+" "+b, n, ok, 1)
}

func TestFreeKeys(t *testing.T) {
	lists := 1
	for rings := 1; rings <= 10; rings++ {
		lists *= rings
		keys, ok := impl.FreeKeys(rings)
		wantList(t, fmt.Sprint("FreeKeys ", rings), keys, ok, freeKeysOf(rings))
		wantKeyedFacts(t, keys, keyedFacts{parts: 1, longest: rings, links: rings << (rings - 1), isLine: rings == 1})
		none, all := off(rings), strings.Repeat("1", rings)
		checkKeyedWay(t, keys, none, all, keyedWays{first: firstNumbers(rings), count: big.NewInt(int64(lists))})
		for _, s := range statesOf(rings)[:1<<(rings-1)] {
			moves, ok := impl.KeyedMoves(keys, s)
			wantList(t, "KeyedMoves by free keys "+s, moves, ok, firstNumbers(rings))
		}
		far, n, ok := impl.FarthestByKeys(keys, all[:rings-1]+"0")
		want(t, fmt.Sprint("FarthestByKeys by free keys ", rings), far, ok, none[:rings-1]+"1")
		want(t, fmt.Sprint("FarthestByKeys by free keys ", rings), n, ok, rings)
	}
	for _, rings := range []int{math.MinInt, -10, -1, 0, 11, 12, 20, 64, 1 << 32, math.MaxInt} {
		keys, ok := impl.FreeKeys(rings)
		wantFailList(t, fmt.Sprint("FreeKeys ", rings), keys, ok)
	}
}

func TestOneKey(t *testing.T) {
	keys := []string{"?"}
	wantKeyedFacts(t, keys, keyedFacts{parts: 1, longest: 1, links: 1, isLine: true})
	checkKeyedWay(t, keys, "0", "1", keyedWays{first: []int{0}, count: big.NewInt(1)})
	checkKeyedWay(t, keys, "1", "0", keyedWays{first: []int{0}, count: big.NewInt(1)})
	checkKeyedWay(t, keys, "1", "1", keyedWays{count: big.NewInt(1)})
	far, n, ok := impl.FarthestByKeys(keys, "1")
	want(t, "FarthestByKeys ? 1", far, ok, "0")
	want(t, "FarthestByKeys ? 1", n, ok, 1)
}

func TestLinesOfStates(t *testing.T) {
	for text, isLine := range map[string]bool{
		"?":                   true,
		"??/1?":               true,
		"??/0?":               true,
		"?1/??":               true,
		"?0/??":               true,
		"?10/??1/???":         true,  // a bar told from its last ring on
		"???/0??/11?":         true,  // a bar with its ring 0 the other way around
		"??/??":               false, // around and around
		"?1/1?":               false, // a line of 3 states, and one that cannot be left
		"?0/1?":               false,
		"???/???/???":         false,
		"???/1??/?1?":         false, // two ends, but some states have three moves
		"???/1??/0??":         false,
		"????/1???/01??/011?": false,
		"????/1???/01??/001?": true,
	} {
		got, ok := impl.IsLineOfStates(keysOfText(text))
		want(t, "IsLineOfStates "+text, got, ok, isLine)
	}
}

// Of several states that are as far the first one as texts is told.
func TestFarthestByKeysOfSeveral(t *testing.T) {
	for _, c := range []struct {
		text string
		s    string
		far  string
		most int
	}{
		{"?1/1?", "11", "01", 1},
		{"?1/1?", "01", "10", 2},
		{"?0/0?", "00", "01", 1},
		{"?11/1?1/11?", "111", "011", 1},
		{"?11/1?1/11?", "101", "011", 2},
		{"?00/0?0/00?", "000", "001", 1},
		{"?00/0?0/00?", "001", "010", 2},
		{"??/??", "01", "10", 2},
	} {
		far, n, ok := impl.FarthestByKeys(keysOfText(c.text), c.s)
		want(t, "FarthestByKeys "+c.text+" "+c.s, far, ok, c.far)
		want(t, "FarthestByKeys "+c.text+" "+c.s, n, ok, c.most)
	}
}

// stateNumbered returns the state of so many rings with a number.
func stateNumbered(rings, number int) string {
	for s, n := range numbersOf(rings) {
		if n == number {
			return s
		}
	}
	return ""
}

func TestManyKeyedWays(t *testing.T) {
	n, ok := impl.CountKeyedWays(twoBars(5, 5), off(10), "0000100001")
	want(t, "CountKeyedWays of two bars", n, ok, int(new(big.Int).Binomial(62, 31).Int64()))
	// Each move of the bar but the first one is behind two lists by which its two free rings are moved.
	gated := gatedKeys(8, 2)
	for state, ways := range map[string]int{
		stateNumbered(8, 1) + "00":  1,
		stateNumbered(8, 2) + "11":  2,
		stateNumbered(8, 62) + "11": 1 << 61,
		stateNumbered(8, 63) + "00": 1 << 62,
		stateNumbered(8, 63) + "01": 1 << 62,
		stateNumbered(8, 63) + "10": 1 << 62,
	} {
		n, ok := impl.CountKeyedWays(gated, off(10), state)
		want(t, "CountKeyedWays of a bar with two free rings "+state, n, ok, ways)
		n, ok = impl.CountKeyedWays(gated, state, off(10))
		want(t, "CountKeyedWays back "+state, n, ok, ways)
	}
	for _, state := range []string{
		stateNumbered(8, 63) + "11", stateNumbered(8, 64) + "11", stateNumbered(8, 64) + "01", stateNumbered(8, 64) + "00",
		stateNumbered(8, 65) + "00", stateNumbered(8, 66) + "11", stateNumbered(8, 127) + "00", stateNumbered(8, 128) + "11", stateNumbered(8, 255) + "00",
	} {
		n, ok := impl.CountKeyedWays(gated, off(10), state)
		wantFail(t, "CountKeyedWays of a bar with two free rings "+state, n, ok)
		n, ok = impl.CountKeyedWays(gated, state, off(10))
		wantFail(t, "CountKeyedWays back "+state, n, ok)
		if _, ok := impl.FirstKeyed(gated, off(10), state); !ok {
			t.Error("FirstKeyed fails of", state)
		}
	}
}

func TestMoreKeyedWaysThanAnIntTells(t *testing.T) {
	for _, keys := range [][]string{gatedKeys(8, 2), gatedKeys(7, 3)} {
		ways := keyedWaysFrom(keys, off(10))
		for i, s := range statesOf(10) {
			if way, reached := ways[s]; reached && i%2 == 0 {
				checkKeyedWay(t, keys, off(10), s, way)
			}
		}
	}
}

func TestTurnKeys(t *testing.T) {
	for _, keys := range append(keysOfFewRings(), keysOfManyRings()...) {
		what := keysName(keys)
		var wanted []string
		for k := len(keys) - 1; k >= 0; k-- {
			wanted = append(wanted, mirrored(keys[k]))
		}
		turned, ok := impl.TurnKeys(keys)
		wantList(t, "TurnKeys"+what, turned, ok, wanted)
		back, ok := impl.TurnKeys(turned)
		wantList(t, "TurnKeys twice"+what, back, ok, keys)
		for i, s := range statesOf(len(keys)) {
			if i%37 > 3 {
				continue
			}
			for k := range keys {
				next, ok := impl.MoveKeyed(keys, s, k)
				other, fine := impl.MoveKeyed(turned, mirrored(s), len(keys)-1-k)
				if other != mirrored(next) || fine != ok {
					t.Errorf("MoveKeyed by keys turned%s %s %d: got %s, %v, and %s, %v", what, s, k, next, ok, other, fine)
				}
			}
		}
	}
}

func TestKeysThatAreTheirOwnMirrorImage(t *testing.T) {
	for _, text := range []string{"?", "??/??", "?1/1?", "?0/0?", "???/???/???", "?01/0?0/10?", "?1?/1?1/?1?", "?01?/1?10/01?1/?10?"} {
		turned, ok := impl.TurnKeys(keysOfText(text))
		wantList(t, "TurnKeys "+text, turned, ok, keysOfText(text))
	}
	for text, other := range map[string]string{"??/1?": "?1/??", "?0/1?": "?1/0?", "???/1??/01?": "?10/??1/???", "?00/???/???": "???/???/00?"} {
		turned, ok := impl.TurnKeys(keysOfText(text))
		wantList(t, "TurnKeys "+text, turned, ok, keysOfText(other))
	}
}

func TestKeysTextAndParseKeys(t *testing.T) {
	for _, keys := range append(keysOfFewRings(), keysOfManyRings()...) {
		wanted := keys[0]
		for _, s := range keys[1:] {
			wanted += "/" + s
		}
		text, ok := impl.KeysText(keys)
		want(t, "KeysText"+keysName(keys), text, ok, wanted)
		parsed, ok := impl.ParseKeys(wanted)
		wantList(t, "ParseKeys "+wanted, parsed, ok, keys)
	}
}

func TestTextsThatAreNoKeys(t *testing.T) {
	for _, s := range []string{
		"", "/", "//", "0", "1", "2", "x", " ", "??", "?/", "/?", "?/?", " ?", "? ", "?\n", "\n", "\x00", "\xff", "？", "*", "??/?", "?/??", "??/", "/??",
		"??/??/", "/??/??", "??//??", "??/??/??", "??,??", "??;??", "??|??", "??\\??", "????", "?? /??", "??/ ??", "??/??\n", " ??/??", "??\n/??",
		"0?/??", "1?/??", "??/?0", "??/?1", "?2/??", "??/x?", "?-/??", "???/1??/01", "???/1??/01??", "???/1??/010", "???/1??", "???/10?/01?/",
		"???/???", "??/??/???", "[??]", "\"?\"", "?１/??", strings.Repeat("?", 10), strings.Repeat("?", 109), strings.Repeat("/", 109),
		strings.Join(freeKeysOf(11), "/"), strings.Join(barKeysOf(11), "/"), strings.Join(freeKeysOf(12), "/"), strings.Join(freeKeysOf(10), "/") + "/",
		strings.Join(freeKeysOf(10)[1:], "/"), strings.Join(append(freeKeysOf(10), "??????????"), "/"), strings.Join(freeKeysOf(10), "/") + "?",
		strings.Repeat("?/", 1<<15), strings.Repeat("?", 1<<16), strings.Repeat("/", 1<<16),
	} {
		keys, ok := impl.ParseKeys(s)
		wantFailList(t, fmt.Sprintf("ParseKeys %.60q", s), keys, ok)
	}
}

// noKeys are lists of texts that are no keys.
func noKeys() [][]string {
	list := [][]string{
		nil, {}, {""}, {"0"}, {"1"}, {"x"}, {" "}, {"\x00"}, {"??"}, {"?", "?"}, {"?", "??"}, {"??", "?"}, {"??"}, {"??", ""}, {"", "??"}, {"", ""},
		{"??", "???"}, {"???", "??"}, {"??", "??", "??"}, {"???", "???"}, {"???", "???", "???", "???"}, {"???", "???", "??"}, {"???", "??", "????"},
		{"0?", "??"}, {"1?", "??"}, {"??", "?0"}, {"??", "?1"}, {"?1", "11"}, {"???", "?0?", "???"}, {"???", "???", "??1"}, {"000", "000", "000"},
		{"?2", "??"}, {"??", "x?"}, {"? ", "??"}, {"??", "-?"}, {"?\x00", "??"}, {"\xff?", "??"}, {"??", "?\n"}, {"?/", "??"}, {"??/??"}, {"/?", "??"},
		{"?0", "?>"}, {"?@", "??"}, {"?.", "??"}, {"x?", "??"}, {"??", "?*"}, {"2??", "???", "???"}, {"？", "???", "???"}, {"？"}, {"?？", "????", "????", "????"},
		{"??\n", "???", "???"}, {"??x", "???", "???"}, {"?0?", "1?x", "???"}, {"?0?", "1?1", "3??"},
		freeKeysOf(11), barKeysOf(11), freeKeysOf(12), freeKeysOf(20), freeKeysOf(64), freeKeysOf(65), append(freeKeysOf(10), "??????????"),
		freeKeysOf(10)[1:], slices.Repeat([]string{"?"}, 1<<16), {strings.Repeat("?", 1<<16)}, {strings.Repeat("?", 65), "??"},
	}
	for k := range 10 {
		for _, sign := range []string{"", "0", "1", "2", "??", "x"} {
			keys := freeKeysOf(10)
			keys[k] = keys[k][:k] + sign + keys[k][k+1:]
			list = append(list, keys)
		}
	}
	return list
}

func TestListsThatAreNoKeys(t *testing.T) {
	for _, keys := range noKeys() {
		failsForKeys(t, keys)
	}
}

// failsForKeys checks that every function fails for what are no keys.
func failsForKeys(t *testing.T, keys []string) {
	t.Helper()
	what := keysName(keys)
	if impl.AreKeys(keys) {
		t.Errorf("AreKeys%s is true", what)
	}
	n, ok := impl.PartsByKeys(keys)
	wantFail(t, "PartsByKeys"+what, n, ok)
	n, ok = impl.LongestByKeys(keys)
	wantFail(t, "LongestByKeys"+what, n, ok)
	n, ok = impl.LinksByKeys(keys)
	wantFail(t, "LinksByKeys"+what, n, ok)
	isLine, ok := impl.IsLineOfStates(keys)
	wantFail(t, "IsLineOfStates"+what, isLine, ok)
	turned, ok := impl.TurnKeys(keys)
	wantFailList(t, "TurnKeys"+what, turned, ok)
	text, ok := impl.KeysText(keys)
	wantFail(t, "KeysText"+what, text, ok)
	for _, s := range []string{"", "0", "00", "11", "000", "0000000000", off(len(keys))} {
		failsForState(t, keys, s)
	}
	if len(keys) > 0 {
		failsForState(t, keys, off(len(keys[0])))
	}
}

// failsForState checks that every function that requires a state fails for what is none.
func failsForState(t *testing.T, keys []string, s string) {
	t.Helper()
	what := keysName(keys) + fmt.Sprintf(" %.20q", s)
	for k := range min(len(keys)+1, 12) {
		fits, ok := impl.FitsKey(keys, s, k)
		wantFail(t, "FitsKey"+what, fits, ok)
		next, ok := impl.MoveKeyed(keys, s, k)
		wantFail(t, "MoveKeyed"+what, next, ok)
	}
	moves, ok := impl.KeyedMoves(keys, s)
	wantFailList(t, "KeyedMoves"+what, moves, ok)
	n, ok := impl.CountReachedBy(keys, s)
	wantFail(t, "CountReachedBy"+what, n, ok)
	far, n, ok := impl.FarthestByKeys(keys, s)
	wantFail(t, "FarthestByKeys"+what, far, ok)
	wantFail(t, "FarthestByKeys"+what, n, ok)
	other := off(len(keys))
	failsForTwoStatesByKeys(t, keys, s, s)
	failsForTwoStatesByKeys(t, keys, s, other)
	failsForTwoStatesByKeys(t, keys, other, s)
}

func failsForTwoStatesByKeys(t *testing.T, keys []string, a, b string) {
	t.Helper()
	what := keysName(keys) + fmt.Sprintf(" %.20q %.20q", a, b)
	n, ok := impl.FewestKeyed(keys, a, b)
	wantFail(t, "FewestKeyed"+what, n, ok)
	way, ok := impl.FirstKeyed(keys, a, b)
	wantFailList(t, "FirstKeyed"+what, way, ok)
	n, ok = impl.CountKeyedWays(keys, a, b)
	wantFail(t, "CountKeyedWays"+what, n, ok)
}

func TestTextsThatAreNoStatesByKeys(t *testing.T) {
	for _, keys := range [][]string{freeKeysOf(1), barKeysOf(2), lockedKeys(3), barKeysOf(3), freeKeysOf(9), barKeysOf(10)} {
		rings := len(keys)
		fine := off(rings)
		for _, s := range []string{
			"", fine + "0", fine + "1", fine[1:], "2" + fine[1:], fine[1:] + "2", "?" + fine[1:], fine[1:] + "?", fine[1:] + "x", fine[1:] + "/", fine[1:] + "\n",
			fine[1:] + "\x00", "\xff" + fine[1:], " " + fine, fine + "\n", fine[1:] + " ", fine[1:] + "０", off(11), off(20), off(21), off(64), off(64 + rings),
			strings.Repeat("1", rings+1), strings.Repeat("1", rings-1), strings.Repeat("?", rings), strings.Repeat("a", rings), off(1 << 16),
		} {
			failsForState(t, keys, s)
		}
	}
}

func TestMovesByKeysThatCannotBeMade(t *testing.T) {
	for _, c := range []struct {
		text string
		s    string
		k    int
	}{
		{"??/1?", "00", 1}, {"??/1?", "01", 1}, {"???/1??/01?", "111", 2}, {"???/1??/01?", "000", 2}, {"???/1??/01?", "001", 1},
		{"?1/1?", "00", 0}, {"?1/1?", "00", 1}, {"?1/1?", "01", 1}, {"?1/0?", "11", 1}, {"?0/0?", "01", 0},
	} {
		next, ok := impl.MoveKeyed(keysOfText(c.text), c.s, c.k)
		wantFail(t, fmt.Sprint("MoveKeyed ", c.text, " ", c.s, " ", c.k), next, ok)
		fits, ok := impl.FitsKey(keysOfText(c.text), c.s, c.k)
		want(t, fmt.Sprint("FitsKey ", c.text, " ", c.s, " ", c.k), fits, ok, false)
	}
}

func TestKeysExample(t *testing.T) {
	keys, ok := impl.BarKeys(3)
	text, fine := impl.KeysText(keys)
	want(t, "KeysText of BarKeys 3", text, ok && fine, "???/1??/01?")
	n, ok := impl.LongestByKeys(keys)
	want(t, "LongestByKeys of BarKeys 3", n, ok, 7)
	isLine, ok := impl.IsLineOfStates(keys)
	want(t, "IsLineOfStates of BarKeys 3", isLine, ok, true)
	n, ok = impl.CountReachedBy(keys, "111")
	want(t, "CountReachedBy of BarKeys 3", n, ok, 8)
	n, ok = impl.FewestKeyed(keysOfText("??/1?"), "00", "01")
	want(t, "FewestKeyed ??/1? 00 01", n, ok, 3)
	free, ok := impl.FreeKeys(3)
	wantList(t, "FreeKeys 3", free, ok, []string{"???", "???", "???"})
	n, ok = impl.LinksByKeys(free)
	want(t, "LinksByKeys of FreeKeys 3", n, ok, 12)
	n, ok = impl.LongestByKeys(free)
	want(t, "LongestByKeys of FreeKeys 3", n, ok, 3)
	crossed := keysOfText("?1/1?")
	n, ok = impl.PartsByKeys(crossed)
	want(t, "PartsByKeys ?1/1?", n, ok, 2)
	moves, ok := impl.KeyedMoves(crossed, "00")
	wantList(t, "KeyedMoves ?1/1? 00", moves, ok, nil)
	moves, ok = impl.KeyedMoves(crossed, "11")
	wantList(t, "KeyedMoves ?1/1? 11", moves, ok, []int{0, 1})
}
