package tests

import (
	"fmt"
	"math"
	"math/rand"
	"slices"
	"strings"
	"testing"

	"loop.example/g01314/impl"
)

// Promise 6: turns are taken back, and boxes like the bar open as rings come off.

// boxWhere returns a box, in which sign tells the sign that the rule for a part
// and a side has for another part.
func boxWhere(parts, sides int, sign func(part, side, other int) byte) impl.Box {
	b := impl.Box{Parts: parts, Sides: sides}
	for part := range parts {
		for side := range sides - 1 {
			signs := []byte(strings.Repeat("?", parts))
			for other := range signs {
				if other != part {
					signs[other] = sign(part, side, other)
				}
			}
			b.Rules = append(b.Rules, string(signs))
		}
	}
	return b
}

func freeBoxOf(parts, sides int) impl.Box {
	return boxWhere(parts, sides, func(part, side, other int) byte { return '?' })
}

func ringBoxOf(parts int) impl.Box {
	return boxWhere(parts, 2, func(part, side, other int) byte { return barSign(part, other) })
}

func stairBoxOf(parts, sides int) impl.Box {
	return boxWhere(parts, sides, func(part, side, other int) byte {
		switch {
		case other != part-1:
			return '?'
		case side%2 == 0:
			return byte('0' + sides - 1)
		}
		return '0'
	})
}

// lockedBox lets a part be turned just if all others are at one side.
func lockedBox(parts, sides, at int) impl.Box {
	return boxWhere(parts, sides, func(part, side, other int) byte { return byte('0' + at) })
}

// mixedBox tells about one of so many signs.
func mixedBox(random *rand.Rand, parts, sides, oneOf int) impl.Box {
	return boxWhere(parts, sides, func(part, side, other int) byte {
		if random.Intn(oneOf) > 0 {
			return '?'
		}
		return byte('0' + random.Intn(sides))
	})
}

// rulesFor returns all rules that a part can have.
func rulesFor(parts, sides, part int) []string {
	list := []string{""}
	for place := range parts {
		var longer []string
		for _, rule := range list {
			for _, sign := range "01234"[:sides] {
				if place != part {
					longer = append(longer, rule+string(sign))
				}
			}
			longer = append(longer, rule+"?")
		}
		list = longer
	}
	return list
}

// allBoxes returns all boxes of a size.
func allBoxes(parts, sides int) []impl.Box {
	list := []impl.Box{{Parts: parts, Sides: sides}}
	for part := range parts {
		for range sides - 1 {
			var longer []impl.Box
			for _, b := range list {
				for _, rule := range rulesFor(parts, sides, part) {
					longer = append(longer, impl.Box{Parts: parts, Sides: sides, Rules: append(slices.Clone(b.Rules), rule)})
				}
			}
			list = longer
		}
	}
	return list
}

// boxSizes are the parts and sides that boxes can have.
func boxSizes() [][2]int {
	return [][2]int{
		{1, 2}, {1, 3}, {1, 4}, {1, 5}, {2, 2}, {2, 3}, {2, 4}, {2, 5}, {3, 2}, {3, 3}, {3, 4}, {3, 5},
		{4, 2}, {4, 3}, {4, 4}, {4, 5}, {5, 2}, {5, 3}, {6, 2}, {6, 3},
	}
}

// boxesOfFewStates are all boxes of the least sizes, and others of up to 32 states, the same ones in each run.
func boxesOfFewStates() []impl.Box {
	list := []impl.Box{lockedBox(3, 2, 1), lockedBox(2, 4, 2), lockedBox(3, 3, 1), ringBoxOf(4), ringBoxOf(5), stairBoxOf(3, 3), stairBoxOf(4, 2)}
	for _, size := range [][2]int{{1, 2}, {1, 3}, {1, 4}, {1, 5}, {2, 2}, {2, 3}, {3, 2}} {
		list = append(list, allBoxes(size[0], size[1])...)
	}
	random := rand.New(rand.NewSource(6))
	for i := range 60 {
		size := [][2]int{{2, 4}, {2, 5}, {3, 3}, {4, 2}, {5, 2}}[i%5]
		list = append(list, mixedBox(random, size[0], size[1], 1+i%4))
	}
	return list
}

// boxesOfManyStates have up to 729 states, the most that a box can have.
func boxesOfManyStates() []impl.Box {
	random := rand.New(rand.NewSource(66))
	var list []impl.Box
	for _, size := range boxSizes() {
		parts, sides := size[0], size[1]
		if parts < 3 || parts+sides < 7 {
			continue
		}
		list = append(list, freeBoxOf(parts, sides), stairBoxOf(parts, sides), lockedBox(parts, sides, sides-1))
		for oneOf := 3; oneOf < 8; oneOf += 2 {
			list = append(list, mixedBox(random, parts, sides, oneOf))
		}
	}
	return append(list, ringBoxOf(6))
}

// boxName tells of a box, whose rules may be very many, by the first few.
func boxName(b impl.Box) string {
	return fmt.Sprintf(" %dx%d%.60q", b.Parts, b.Sides, b.Rules[:min(len(b.Rules), 17)])
}

func wantBox(t *testing.T, what string, b impl.Box, ok bool, wanted impl.Box) {
	t.Helper()
	if !ok || b.Parts != wanted.Parts || b.Sides != wanted.Sides || !slices.Equal(b.Rules, wanted.Rules) {
		t.Errorf("%s: got %v, %v, want %v, true", what, b, ok, wanted)
	}
}

func wantNoBox(t *testing.T, what string, b impl.Box, ok bool) {
	t.Helper()
	if ok || b.Parts != 0 || b.Sides != 0 || len(b.Rules) != 0 {
		t.Errorf("%s: got %v, %v, want a failure", what, b, ok)
	}
}

func wantTurns(t *testing.T, what string, got [][]int, ok bool, wanted []turnTold) {
	t.Helper()
	same := func(turn []int, told turnTold) bool { return slices.Equal(turn, told[:]) }
	if !ok || !slices.EqualFunc(got, wanted, same) {
		t.Errorf("%s: got %v, %v, want %v, true", what, got, ok, wanted)
	}
}

func TestChapter6LimitsAsTold(t *testing.T) {
	if impl.MaxParts != 6 || impl.MaxSides != 5 || impl.MaxBoxed != 1000 {
		t.Error("limits", impl.MaxParts, impl.MaxSides, impl.MaxBoxed)
	}
}

func TestTurnsAgainstRules(t *testing.T) {
	for _, b := range boxesOfFewStates() {
		links := ruleTurns(b)
		for _, s := range boxStates(b) {
			checkTurns(t, b, s, links[s])
		}
	}
	for _, b := range boxesOfManyStates() {
		links := ruleTurns(b)
		for i, s := range boxStates(b) {
			if i%11 == 0 {
				checkTurns(t, b, s, links[s])
			}
		}
	}
}

// checkTurns compares what is told of a state with the turns that there are from it.
func checkTurns(t *testing.T, b impl.Box, s string, turns []turnTold) {
	t.Helper()
	what := boxName(b) + " " + s
	list, ok := impl.TurnsOf(b, s)
	wantTurns(t, "TurnsOf"+what, list, ok, turns)
	for part := range b.Parts {
		for _, by := range []int{1, -1} {
			turn := turnTold{part, by}
			what := fmt.Sprint(what, turn)
			can, ok := impl.CanTurn(b, s, part, by)
			want(t, "CanTurn"+what, can, ok, slices.Contains(turns, turn))
			next, ok := impl.TurnPart(b, s, part, by)
			if !slices.Contains(turns, turn) {
				wantFail(t, "TurnPart"+what, next, ok)
				continue
			}
			want(t, "TurnPart"+what, next, ok, turnedText(s, turn))
			can, ok = impl.CanTurn(b, next, part, -by)
			want(t, "CanTurn back"+what, can, ok, true)
			back, ok := impl.TurnPart(b, next, part, -by)
			want(t, "TurnPart back"+what, back, ok, s)
		}
	}
}

func TestTurnsThatAreNone(t *testing.T) {
	for _, b := range []impl.Box{freeBoxOf(1, 2), freeBoxOf(2, 3), freeBoxOf(6, 3), ringBoxOf(3), stairBoxOf(4, 5)} {
		for i, s := range boxStates(b) {
			if i%50 > 2 {
				continue
			}
			for _, part := range noParts(b) {
				failsForTurn(t, b, s, part, 1)
				failsForTurn(t, b, s, part, -1)
				failsForTurn(t, b, s, part, 0)
			}
			for part := range b.Parts {
				for _, by := range []int{math.MinInt, -1 - 1<<32, -3, -2, 0, 2, 3, 5, 1<<32 - 1, 1<<32 + 1, math.MaxInt} {
					failsForTurn(t, b, s, part, by)
				}
			}
		}
	}
}

// noParts are parts that there are not.
func noParts(b impl.Box) []int {
	return []int{math.MinInt, -64, -2, -1, b.Parts, b.Parts + 1, 6, 7, 20, 64, 1 << 32, math.MaxInt}
}

// noSides are sides that there are not, and the last one, which has no rule.
func noSides(b impl.Box) []int {
	return []int{math.MinInt, -64, -2, -1, b.Sides - 1, b.Sides, b.Sides + 1, 5, 6, 64, 1 << 32, math.MaxInt}
}

// failsForTurn checks a turn that is invalid, which is more than that it cannot be made.
func failsForTurn(t *testing.T, b impl.Box, s string, part, by int) {
	t.Helper()
	what := fmt.Sprintf("%s %.20q %d %d", boxName(b), s, part, by)
	can, ok := impl.CanTurn(b, s, part, by)
	wantFail(t, "CanTurn"+what, can, ok)
	next, ok := impl.TurnPart(b, s, part, by)
	wantFail(t, "TurnPart"+what, next, ok)
}

func TestTurnsThatCannotBeMade(t *testing.T) {
	for _, c := range []struct {
		text     string
		s        string
		part, by int
	}{
		{"1x2:?", "1", 0, 1}, {"1x2:?", "0", 0, -1}, {"1x5:?:?:?:?", "4", 0, 1}, {"1x5:?:?:?:?", "0", 0, -1},
		{"2x3:??:??:2?:0?", "00", 1, 1}, {"2x3:??:??:2?:0?", "10", 1, 1}, {"2x3:??:??:2?:0?", "21", 1, 1}, {"2x3:??:??:2?:0?", "01", 1, -1},
		{"2x3:??:??:2?:0?", "22", 1, -1}, {"2x3:??:??:2?:0?", "12", 1, -1}, {"2x3:??:??:2?:0?", "02", 0, -1}, {"2x3:??:??:2?:0?", "22", 0, 1},
		{"2x2:?1:1?", "00", 0, 1}, {"2x2:?1:1?", "00", 1, 1}, {"2x2:?1:1?", "10", 0, -1}, {"2x2:?0:0?", "11", 1, -1},
	} {
		what := fmt.Sprint(" ", c.text, " ", c.s, " ", c.part, " ", c.by)
		can, ok := impl.CanTurn(boxOfText(c.text), c.s, c.part, c.by)
		want(t, "CanTurn"+what, can, ok, false)
		next, ok := impl.TurnPart(boxOfText(c.text), c.s, c.part, c.by)
		wantFail(t, "TurnPart"+what, next, ok)
	}
}

func TestTwoStatesOfBoxesAgainstAllLists(t *testing.T) {
	for _, b := range boxesOfFewStates() {
		links := ruleTurns(b)
		states := boxStates(b)
		for _, from := range states {
			lists := links.turnLists(from)
			for _, to := range states {
				if all, reached := lists[to]; reached {
					checkTurnedWay(t, b, from, to, all[0])
				} else {
					checkNoTurnedWay(t, b, from, to)
				}
			}
		}
	}
}

func TestTwoStatesOfManyBoxedAgainstSearch(t *testing.T) {
	for _, b := range boxesOfManyStates() {
		links := ruleTurns(b)
		states := boxStates(b)
		for i := 0; i < len(states); i += len(states)/3 - 1 {
			ways := links.turnWays(states[i])
			for j := i % 23; j < len(states); j += 23 {
				if way, reached := ways[states[j]]; reached {
					checkTurnedWay(t, b, states[i], states[j], way.first)
				} else {
					checkNoTurnedWay(t, b, states[i], states[j])
				}
			}
		}
	}
}

// checkTurnedWay compares what is told of two states with the first list of fewest turns.
func checkTurnedWay(t *testing.T, b impl.Box, from, to string, first []turnTold) {
	t.Helper()
	what := boxName(b) + " " + from + " " + to
	n, ok := impl.FewestTurns(b, from, to)
	want(t, "FewestTurns"+what, n, ok, len(first))
	list, ok := impl.FirstTurns(b, from, to)
	wantTurns(t, "FirstTurns"+what, list, ok, first)
}

// checkNoTurnedWay checks two states without a way between them.
func checkNoTurnedWay(t *testing.T, b impl.Box, from, to string) {
	t.Helper()
	what := boxName(b) + " " + from + " " + to
	n, ok := impl.FewestTurns(b, from, to)
	wantFail(t, "FewestTurns"+what, n, ok)
	list, ok := impl.FirstTurns(b, from, to)
	wantFailList(t, "FirstTurns"+what, list, ok)
}

func TestStatesOfBoxesThatAreTheSame(t *testing.T) {
	for _, b := range boxesOfManyStates() {
		for i, s := range boxStates(b) {
			if i%61 == 0 {
				checkTurnedWay(t, b, s, s, nil)
			}
		}
	}
}

// Turns that are made one after the other lead along FirstTurns, and back when they are taken back.
func TestFirstTurnsThereAndBack(t *testing.T) {
	for _, b := range boxesOfManyStates() {
		from, ways := shutState(b), ruleTurns(b).turnWays(shutState(b))
		for i, to := range boxStates(b) {
			way, reached := ways[to]
			if i%13 > 0 || !reached {
				continue
			}
			list, ok := impl.FirstTurns(b, from, to)
			wantTurns(t, "FirstTurns"+boxName(b)+" "+from+" "+to, list, ok, way.first)
			at := playedTurns(t, b, from, list)
			want(t, "TurnPart all along"+boxName(b), at, true, to)
			slices.Reverse(list)
			for _, turn := range list {
				turn[1] = -turn[1]
			}
			at = playedTurns(t, b, to, list)
			want(t, "TurnPart all back"+boxName(b), at, true, from)
		}
	}
}

// playedTurns returns the state behind turns that can be made.
func playedTurns(t *testing.T, b impl.Box, s string, turns [][]int) string {
	t.Helper()
	for _, turn := range turns {
		next, ok := impl.TurnPart(b, s, turn[0], turn[1])
		if !ok {
			t.Fatalf("TurnPart%s %s %v cannot be made", boxName(b), s, turn)
		}
		s = next
	}
	return s
}

func TestReachedStatesAgainstSearch(t *testing.T) {
	for _, b := range boxesOfFewStates() {
		links := ruleTurns(b)
		open, opened := off(b.Parts), 0
		for _, s := range boxStates(b) {
			checkReached(t, b, s, links)
			if _, reached := links.turnDistances(s)[open]; reached {
				opened++
			}
		}
		checkOpened(t, b, links, opened)
	}
	for _, b := range boxesOfManyStates() {
		links := ruleTurns(b)
		states := boxStates(b)
		for i := 0; i < len(states); i += 1 + len(states)/6 {
			checkReached(t, b, states[i], links)
		}
		checkReached(t, b, states[len(states)-1], links)
		checkOpened(t, b, links, len(links.turnDistances(off(b.Parts))))
	}
}

// checkReached compares what is told of one state with the states that are reached from it.
func checkReached(t *testing.T, b impl.Box, s string, links turnLinks) {
	t.Helper()
	what := boxName(b) + " " + s
	distances := links.turnDistances(s)
	n, ok := impl.CountBoxed(b, s)
	want(t, "CountBoxed"+what, n, ok, len(distances))
	far, most := "", -1
	for _, other := range boxStates(b) {
		if turns, reached := distances[other]; reached && turns > most {
			far, most = other, turns
		}
	}
	wantFarthest(t, b, s, far, most)
}

func wantFarthest(t *testing.T, b impl.Box, s, far string, most int) {
	t.Helper()
	what := boxName(b) + " " + s
	state, n, ok := impl.FarthestBoxed(b, s)
	want(t, "FarthestBoxed"+what, state, ok, far)
	want(t, "FarthestBoxed"+what, n, ok, most)
}

// shutState is the state in which all parts are at the last side.
func shutState(b impl.Box) string {
	return strings.Repeat(fmt.Sprint(b.Sides-1), b.Parts)
}

// checkOpened compares what is told of a box with from how many states it can be opened, and with the search from the shut one.
func checkOpened(t *testing.T, b impl.Box, links turnLinks, opened int) {
	t.Helper()
	if !impl.IsBox(b) {
		t.Errorf("IsBox%s is false", boxName(b))
	}
	n, ok := impl.CountOpened(b)
	want(t, "CountOpened"+boxName(b), n, ok, opened)
	n, ok = impl.TurnsToOpen(b)
	if turns, reached := links.turnDistances(shutState(b))[off(b.Parts)]; reached {
		want(t, "TurnsToOpen"+boxName(b), n, ok, turns)
	} else {
		wantFail(t, "TurnsToOpen"+boxName(b), n, ok)
	}
}

// Of several states that are as far the first one as texts is told.
func TestFarthestBoxedOfSeveral(t *testing.T) {
	for _, c := range []struct {
		text string
		s    string
		far  string
		most int
	}{
		{"1x3:?:?", "1", "0", 1},
		{"1x5:?:?:?:?", "2", "0", 2},
		{"1x5:?:?:?:?", "1", "4", 3},
		{"2x3:??:??:??:??", "11", "00", 2},
		{"2x3:??:??:??:??", "12", "00", 3},
		{"2x2:?1:1?", "11", "01", 1},
		{"2x2:?1:1?", "01", "10", 2},
		{"2x2:?1:1?", "00", "00", 0},
		{"2x3:??:??:2?:0?", "00", "22", 8},
		{"2x3:?0:?0:??:??", "11", "02", 4},
		{"2x3:?0:?0:??:??", "12", "02", 5},
		{"3x2:?11:1?1:11?", "101", "011", 2},
	} {
		wantFarthest(t, boxOfText(c.text), c.s, c.far, c.most)
	}
}

// In a state in which no part can be turned there are no turns, but that is no failure.
func TestStatesInWhichNoPartCanBeTurned(t *testing.T) {
	for _, c := range []struct{ text, s string }{
		{"2x2:?1:1?", "00"}, {"2x2:?0:0?", "11"}, {"2x2:?1:0?", "10"}, {"2x2:?0:1?", "01"}, {"2x3:?2:?2:1?:1?", "00"}, {"2x3:?1:?1:1?:1?", "20"},
		{"3x2:?11:1?1:11?", "100"}, {"3x2:?11:1?1:11?", "000"}, {"3x3:?00:?11:0?0:1?1:00?:11?", "220"},
	} {
		checkLockedState(t, boxOfText(c.text), c.s)
	}
	for _, b := range boxesOfFewStates() {
		links := ruleTurns(b)
		for _, s := range boxStates(b) {
			if len(links[s]) == 0 {
				checkLockedState(t, b, s)
			}
		}
	}
	for parts := 3; parts <= 6; parts++ {
		for _, s := range []string{off(parts), off(parts-1) + "1", "1" + off(parts-1)} {
			checkLockedState(t, lockedBox(parts, 2, 1), s)
		}
	}
}

func checkLockedState(t *testing.T, b impl.Box, s string) {
	t.Helper()
	checkTurns(t, b, s, nil)
	what := boxName(b) + " " + s
	for _, other := range []string{off(b.Parts), shutState(b)} {
		if other != s {
			checkNoTurnedWay(t, b, s, other)
			checkNoTurnedWay(t, b, other, s)
		}
	}
	checkTurnedWay(t, b, s, s, nil)
	n, ok := impl.CountBoxed(b, s)
	want(t, "CountBoxed"+what, n, ok, 1)
	wantFarthest(t, b, s, s, 0)
}

func TestBoxesThatCanBeOpenedOrCannot(t *testing.T) {
	for text, opened := range map[string]int{
		"2x2:?1:1?":                          1,
		"2x2:?0:0?":                          3,
		"2x3:?1:?1:1?:1?":                    1,
		"2x3:?0:?0:0?:0?":                    5,
		"2x3:??:?1:??:1?":                    8,
		"3x2:?11:1?1:11?":                    1,
		"3x2:???:??1:?1?":                    2,
		textOfBox(lockedBox(6, 3, 2)):        1,
		textOfBox(lockedBox(6, 3, 0)):        13,
		textOfBox(lockedBox(4, 5, 0)):        17,
		textOfBox(lockedBox(2, 5, 1)):        1,
		textOfBox(stairBoxOf(1, 5)):          5,
		textOfBox(lockedBox(1, 2, 1)):        2,
		"6x2" + strings.Repeat(":??????", 6): 64,
	} {
		b := boxOfText(text)
		n, ok := impl.CountOpened(b)
		want(t, "CountOpened "+text, n, ok, opened)
		n, ok = impl.TurnsToOpen(b)
		if len(boxStates(b)) == opened {
			want(t, "TurnsToOpen "+text, n, ok, b.Parts*(b.Sides-1))
		} else {
			wantFail(t, "TurnsToOpen "+text, n, ok)
		}
		_, reached := ruleTurns(b).turnDistances(shutState(b))[off(b.Parts)]
		if fewest, ok := impl.FewestTurns(b, shutState(b), off(b.Parts)); ok != reached || fewest != n {
			t.Error("FewestTurns to open", text, fewest, ok)
		}
	}
}

func TestFreeBox(t *testing.T) {
	checkSizes(t, "FreeBox", impl.FreeBox, freeBoxOf)
	for _, size := range boxSizes() {
		checkFreeBox(t, freeBoxOf(size[0], size[1]))
	}
}

// checkSizes checks what makes a box of each size, and of sizes that boxes cannot have.
func checkSizes(t *testing.T, what string, made func(int, int) (impl.Box, bool), wanted func(int, int) impl.Box) {
	t.Helper()
	for parts := -1; parts <= 8; parts++ {
		for sides := -1; sides <= 8; sides++ {
			b, ok := made(parts, sides)
			if slices.Contains(boxSizes(), [2]int{parts, sides}) {
				wantBox(t, fmt.Sprint(what, " ", parts, " ", sides), b, ok, wanted(parts, sides))
			} else {
				wantNoBox(t, fmt.Sprint(what, " ", parts, " ", sides), b, ok)
			}
		}
	}
	for _, size := range noSizes() {
		b, ok := made(size[0], size[1])
		wantNoBox(t, fmt.Sprint(what, " ", size), b, ok)
	}
}

// checkFreeBox compares two states sign by sign: each part is turned alone.
func checkFreeBox(t *testing.T, b impl.Box) {
	t.Helper()
	states := boxStates(b)
	shut := shutState(b)
	for i := 0; i < len(states); i += 1 + len(states)/9 {
		var first []turnTold
		for part := range b.Parts {
			at := int(states[i][part] - '0')
			first = append(first, slices.Repeat([]turnTold{{part, 1}}, b.Sides-1-at)...)
		}
		checkTurnedWay(t, b, states[i], shut, first)
		n, ok := impl.CountBoxed(b, states[i])
		want(t, "CountBoxed"+boxName(b)+" "+states[i], n, ok, len(states))
	}
	wantFarthest(t, b, shut, off(b.Parts), b.Parts*(b.Sides-1))
	n, ok := impl.CountOpened(b)
	want(t, "CountOpened"+boxName(b), n, ok, len(states))
	n, ok = impl.TurnsToOpen(b)
	want(t, "TurnsToOpen"+boxName(b), n, ok, b.Parts*(b.Sides-1))
}

// noSizes are parts and sides that boxes cannot have: too few of them, too
// many, and such with more than MaxBoxed states.
func noSizes() [][2]int {
	return [][2]int{
		{0, 2}, {0, 5}, {-1, 2}, {-2, 3}, {7, 2}, {7, 3}, {8, 2}, {64, 2}, {1, 0}, {1, 1}, {1, -1}, {1, -2}, {1, 6}, {1, 7}, {2, 6}, {2, 1}, {6, 1}, {6, 0},
		{5, 4}, {5, 5}, {6, 4}, {6, 5}, {1, 1000}, {3, 10}, {3, 6}, {0, 0}, {-1, -1}, {-2, -2}, {1, 1001}, {2, 31}, {2, 1 << 32}, {1 << 32, 2}, {1 << 32, 1 << 32},
		{math.MinInt, 2}, {math.MaxInt, 2}, {2, math.MinInt}, {2, math.MaxInt}, {math.MaxInt, math.MaxInt}, {math.MinInt, math.MinInt}, {math.MinInt, 3},
	}
}

// No box has just MaxBoxed states, because 1000 is no power of 2, 3, 4 or 5:
// 729 are the most that there are, and 1024 the fewest that are too many.
func TestBoxesWithMostStates(t *testing.T) {
	for _, size := range [][2]int{{6, 3}, {4, 5}} {
		b, ok := impl.StairBox(size[0], size[1])
		wantBox(t, "StairBox", b, ok, stairBoxOf(size[0], size[1]))
		n, ok := impl.CountBoxed(b, shutState(b))
		want(t, "CountBoxed"+boxName(b), n, ok, len(boxStates(b)))
		text, ok := impl.BoxText(b)
		want(t, "BoxText"+boxName(b), text, ok, textOfBox(b))
		parsed, ok := impl.ParseBox(text)
		wantBox(t, "ParseBox "+text, parsed, ok, b)
	}
	for _, size := range [][2]int{{5, 4}, {5, 5}, {6, 4}, {6, 5}} {
		failsForBox(t, freeBoxOf(size[0], size[1]))
		failsForBox(t, stairBoxOf(size[0], size[1]))
		b, ok := impl.StairBox(size[0], size[1])
		wantNoBox(t, fmt.Sprint("StairBox ", size), b, ok)
		b, ok = impl.ParseBox(textOfBox(freeBoxOf(size[0], size[1])))
		wantNoBox(t, fmt.Sprint("ParseBox ", size), b, ok)
	}
}

func TestRingBox(t *testing.T) {
	for parts, text := range map[int]string{
		1: "1x2:?",
		2: "2x2:??:1?",
		3: "3x2:???:1??:01?",
		4: "4x2:????:1???:01??:001?",
		5: "5x2:?????:1????:01???:001??:0001?",
		6: "6x2:??????:1?????:01????:001???:0001??:00001?",
	} {
		b, ok := impl.RingBox(parts)
		wantBox(t, fmt.Sprint("RingBox ", parts), b, ok, boxOfText(text))
		keys, _ := impl.BarKeys(parts)
		wantList(t, fmt.Sprint("the rules of RingBox ", parts), b.Rules, ok, keys)
	}
	for _, parts := range []int{math.MinInt, -6, -1, 0, 7, 8, 9, 10, 11, 20, 64, 1 << 32, math.MaxInt} {
		b, ok := impl.RingBox(parts)
		wantNoBox(t, fmt.Sprint("RingBox ", parts), b, ok)
	}
}

// turnsOfRings returns the turns that move rings one after the other: on those that are off, and back those that are on.
func turnsOfRings(s string, rings []int) []turnTold {
	var turns []turnTold
	for _, k := range rings {
		by := 1
		if s[k] == '1' {
			by = -1
		}
		turns = append(turns, turnTold{k, by})
		s = flipped(s, k)
	}
	return turns
}

func TestRingBoxIsTurnedAsRingsAreMoved(t *testing.T) {
	for rings := 1; rings <= 6; rings++ {
		b, _ := impl.RingBox(rings)
		for _, s := range statesOf(rings) {
			var turns []turnTold
			moves, _ := impl.MovesOf(s)
			for _, k := range moves {
				turns = append(turns, turnsOfRings(s, []int{k})...)
				next, _ := impl.MoveRing(s, k)
				turned, ok := impl.TurnPart(b, s, k, turns[len(turns)-1][1])
				want(t, fmt.Sprint("TurnPart of rings ", s, k), turned, ok, next)
			}
			checkTurns(t, b, s, turns)
			for _, other := range statesOf(rings) {
				way, _ := impl.WayTo(s, other)
				checkTurnedWay(t, b, s, other, turnsOfRings(s, way))
			}
			far, most, _ := impl.FarthestFrom(s)
			wantFarthest(t, b, s, far[0], most)
			n, ok := impl.CountBoxed(b, s)
			want(t, "CountBoxed of rings "+s, n, ok, 1<<rings)
		}
	}
}

func TestRingBoxOpensAsRingsComeOff(t *testing.T) {
	for rings := 1; rings <= 6; rings++ {
		b, _ := impl.RingBox(rings)
		all, _ := impl.AllOn(rings)
		moves, _ := impl.MovesToClear(rings)
		n, ok := impl.TurnsToOpen(b)
		want(t, fmt.Sprint("TurnsToOpen of rings ", rings), n, ok, moves)
		n, ok = impl.CountOpened(b)
		want(t, fmt.Sprint("CountOpened of rings ", rings), n, ok, 1<<rings)
		list, ok := impl.FirstTurns(b, all, off(rings))
		states, _ := impl.StatesBetween(all, off(rings))
		if !ok || len(list) != len(states)-1 {
			t.Fatal("FirstTurns of rings", rings, list, ok)
		}
		for i, turn := range list {
			next, ok := impl.TurnPart(b, states[i], turn[0], turn[1])
			want(t, fmt.Sprint("TurnPart along ", states[i], turn), next, ok, states[i+1])
		}
	}
}

func TestStairBox(t *testing.T) {
	for text, turns := range map[string]int{
		"1x2:?": 1, "1x3:?:?": 2, "1x4:?:?:?": 3, "1x5:?:?:?:?": 4,
		"2x2:??:1?": 2, "2x3:??:??:2?:0?": 8, "2x4:??:??:??:3?:0?:3?": 12, "2x5:??:??:??:??:4?:0?:4?:0?": 24,
		"3x2:???:1??:?1?": 3, "3x3:???:???:2??:0??:?2?:?0?": 18, "3x4:???:???:???:3??:0??:3??:?3?:?0?:?3?": 33,
	} {
		wanted := boxOfText(text)
		b, ok := impl.StairBox(wanted.Parts, wanted.Sides)
		wantBox(t, "StairBox "+text, b, ok, wanted)
		n, ok := impl.TurnsToOpen(b)
		want(t, "TurnsToOpen "+text, n, ok, turns)
	}
	checkSizes(t, "StairBox", impl.StairBox, stairBoxOf)
	for _, size := range boxSizes() {
		checkStairs(t, stairBoxOf(size[0], size[1]))
	}
}

// checkStairs compares turns with what is told of the part before.
func checkStairs(t *testing.T, b impl.Box) {
	t.Helper()
	for _, s := range boxStates(b) {
		for part := range b.Parts {
			for _, by := range []int{1, -1} {
				can, ok := impl.CanTurn(b, s, part, by)
				want(t, fmt.Sprint("CanTurn of stairs", boxName(b), s, part, by), can, ok, stairsLead(s, part, by, b.Sides))
			}
		}
	}
	states := len(boxStates(b))
	checkOpened(t, b, ruleTurns(b), states)
	if b.Sides%2 == 1 && b.Parts <= 2 {
		// All states are along a line from the shut one to the open one.
		wantFarthest(t, b, shutState(b), off(b.Parts), states-1)
	}
}

func stairsLead(s string, part, by, sides int) bool {
	from := int(s[part] - '0')
	if from+by < 0 || from+by >= sides {
		return false
	}
	if part == 0 {
		return true
	}
	if min(from, from+by)%2 == 0 {
		return int(s[part-1]-'0') == sides-1
	}
	return s[part-1] == '0'
}

func TestRuleOf(t *testing.T) {
	for _, b := range slices.Concat(boxesOfFewStates(), boxesOfManyStates()) {
		rules := b.Rules
		for part := range b.Parts {
			for side := range b.Sides - 1 {
				rule, ok := impl.RuleOf(b, part, side)
				want(t, fmt.Sprint("RuleOf", boxName(b), part, side), rule, ok, rules[0])
				rules = rules[1:]
			}
		}
	}
	for _, size := range boxSizes() {
		b := freeBoxOf(size[0], size[1])
		for _, part := range append(noParts(b), 0, b.Parts-1) {
			for _, side := range append(noSides(b), 0, b.Sides-2) {
				if slices.Contains(noParts(b), part) || slices.Contains(noSides(b), side) {
					failsForRule(t, b, part, side)
				}
			}
		}
	}
}

// failsForRule checks a part and a side without a rule.
func failsForRule(t *testing.T, b impl.Box, part, side int) {
	t.Helper()
	what := fmt.Sprint(boxName(b), " ", part, " ", side)
	rule, ok := impl.RuleOf(b, part, side)
	wantFail(t, "RuleOf"+what, rule, ok)
	for _, rule := range []string{"", "?", strings.Repeat("?", max(min(b.Parts, 64), 0))} {
		other, ok := impl.ChangeRule(b, part, side, rule)
		wantNoBox(t, "ChangeRule"+what+" "+rule, other, ok)
	}
}

func TestBackBox(t *testing.T) {
	for text, other := range map[string]string{
		"2x2:??:1?":                   "2x2:??:0?",
		"3x2:???:1??:01?":             "3x2:???:0??:10?",
		"2x3:?0:?1:2?:??":             "2x3:?1:?2:??:0?",
		"2x4:?0:?1:?2:3?:??:1?":       "2x4:?1:?2:?3:2?:??:0?",
		"2x4:??:??:??:3?:0?:3?":       "2x4:??:??:??:0?:3?:0?",
		"2x5:?0:?1:?2:?3:??:??:??:4?": "2x5:?1:?2:?3:?4:0?:??:??:??",
		"3x3:?01:?2?:1?0:2?2:2??:11?": "3x3:?0?:?21:0?0:1?2:11?:0??",
		"4x2:?011:1?01:00?1:????":     "4x2:?100:0?10:11?0:????",
	} {
		back, ok := impl.BackBox(boxOfText(text))
		wantBox(t, "BackBox "+text, back, ok, boxOfText(other))
		back, ok = impl.BackBox(boxOfText(other))
		wantBox(t, "BackBox "+other, back, ok, boxOfText(text))
	}
	for _, b := range slices.Concat(boxesOfFewStates(), boxesOfManyStates()) {
		checkBackBox(t, b)
	}
}

// checkBackBox compares the turns from each state with those from the one it is in the other box.
func checkBackBox(t *testing.T, b impl.Box) {
	t.Helper()
	back, ok := impl.BackBox(b)
	twice, fine := impl.BackBox(back)
	wantBox(t, "BackBox twice"+boxName(b), twice, ok && fine, b)
	links, states := ruleTurns(b), boxStates(b)
	for i := 0; i < len(states); i += 1 + len(states)/40 {
		var turns []turnTold
		for _, turn := range links[states[i]] {
			turns = append(turns, turnTold{turn[0], -turn[1]})
		}
		slices.SortFunc(turns, compareTurns)
		other := backText(states[i], b.Sides)
		list, ok := impl.TurnsOf(back, other)
		wantTurns(t, "TurnsOf the other box"+boxName(b)+" "+other, list, ok, turns)
	}
	n, ok := impl.CountOpened(back)
	reached, fine := impl.CountBoxed(b, shutState(b))
	want(t, "CountOpened of the other box"+boxName(b), n, ok && fine, reached)
	n, ok = impl.TurnsToOpen(back)
	if turns, fine := impl.TurnsToOpen(b); n != turns || ok != fine {
		t.Errorf("TurnsToOpen of the other box%s: got %d, %v, want %d, %v", boxName(b), n, ok, turns, fine)
	}
}

func TestBoxesThatAreTheirOwnBackBox(t *testing.T) {
	list := []impl.Box{lockedBox(3, 3, 1), lockedBox(4, 5, 2), lockedBox(6, 3, 1)}
	for _, text := range []string{"1x2:?", "1x5:?:?:?:?", "2x3:??:??:2?:0?", "2x3:?1:?1:1?:1?", "2x3:?0:?2:2?:0?", "2x4:?1:??:?2:0?:??:3?", "3x3:?01:?21:???:???:2??:0??"} {
		list = append(list, boxOfText(text))
	}
	for _, size := range boxSizes() {
		list = append(list, freeBoxOf(size[0], size[1]))
		if size[1]%2 == 1 {
			list = append(list, stairBoxOf(size[0], size[1]))
		}
	}
	for _, b := range list {
		back, ok := impl.BackBox(b)
		wantBox(t, "BackBox"+boxName(b), back, ok, b)
	}
	// These are not.
	for _, b := range []impl.Box{ringBoxOf(2), ringBoxOf(6), stairBoxOf(2, 4), stairBoxOf(6, 2), lockedBox(2, 4, 1)} {
		back, ok := impl.BackBox(b)
		if !ok || slices.Equal(back.Rules, b.Rules) {
			t.Errorf("BackBox%s: got %v, %v", boxName(b), back, ok)
		}
	}
}

func TestChangeRule(t *testing.T) {
	random := rand.New(rand.NewSource(666))
	for _, size := range boxSizes() {
		parts, sides := size[0], size[1]
		for _, b := range []impl.Box{freeBoxOf(parts, sides), stairBoxOf(parts, sides), mixedBox(random, parts, sides, 2)} {
			for i := range b.Rules {
				rules := rulesFor(parts, sides, i/(sides-1))
				for range 4 {
					checkChangeRule(t, b, i, rules[random.Intn(len(rules))])
				}
				checkChangeRule(t, b, i, b.Rules[i])
			}
		}
	}
}

// checkChangeRule changes the rule with an index, and back again.
func checkChangeRule(t *testing.T, b impl.Box, i int, rule string) {
	t.Helper()
	part, side := i/(b.Sides-1), i%(b.Sides-1)
	what := fmt.Sprint("ChangeRule", boxName(b), " ", part, " ", side, " ", rule)
	wanted := impl.Box{Parts: b.Parts, Sides: b.Sides, Rules: slices.Clone(b.Rules)}
	wanted.Rules[i] = rule
	other, ok := impl.ChangeRule(b, part, side, rule)
	wantBox(t, what, other, ok, wanted)
	back, ok := impl.ChangeRule(other, part, side, b.Rules[i])
	wantBox(t, what+" and back", back, ok, b)
}

// noRules are texts that are no rules for a part of boxes of a size.
func noRules(parts, sides, part int) []string {
	fine := strings.Repeat("?", parts)
	list := []string{"", fine + "0", fine[1:], fine + fine, fine + ":", ":" + fine, " " + fine, fine + "\n", strings.Repeat("?", 7), strings.Repeat("?", 1<<16)}
	for _, sign := range "01234"[:sides] {
		list = append(list, fine[:part]+string(sign)+fine[part+1:])
	}
	for place := range parts {
		before, behind := fine[:place], fine[place+1:]
		for _, sign := range []string{"x", "*", "/", ":", "-", "+", " ", "\n", "\x00", "\xff", "", "??", "0?", "５", "？"} {
			list = append(list, before+sign+behind)
		}
		for sign := sides; sign < 10; sign++ {
			list = append(list, before+fmt.Sprint(sign)+behind)
		}
		if place+3 <= parts {
			// As many bytes as there are parts.
			list = append(list, before+"５"+fine[place+3:], before+"？"+fine[place+3:])
		}
	}
	return list
}

func TestTextsThatAreNoRules(t *testing.T) {
	for _, size := range boxSizes() {
		b := freeBoxOf(size[0], size[1])
		for i := range b.Rules {
			part, side := i/(b.Sides-1), i%(b.Sides-1)
			for _, rule := range noRules(b.Parts, b.Sides, part) {
				other, ok := impl.ChangeRule(b, part, side, rule)
				wantNoBox(t, fmt.Sprintf("ChangeRule%s %d %d %.20q", boxName(b), part, side, rule), other, ok)
			}
		}
	}
}

func TestBoxTextAndParseBox(t *testing.T) {
	for _, b := range slices.Concat(boxesOfFewStates(), boxesOfManyStates()) {
		text, ok := impl.BoxText(b)
		want(t, "BoxText"+boxName(b), text, ok, textOfBox(b))
		parsed, ok := impl.ParseBox(textOfBox(b))
		wantBox(t, "ParseBox "+textOfBox(b), parsed, ok, b)
	}
}

func TestTextsThatAreNoBoxes(t *testing.T) {
	free := textOfBox(freeBoxOf(6, 3))
	for _, s := range []string{
		"", "x", ":", "1", "1x", "1x2", "x2:?", "1x:?", "12:?", "1X2:?", "1*2:?", "1×2:?", "1x2?", "1x2:", "1x2::", "1x2:?:", "1x2::?", "1x2:?:?", ":1x2:?", "1x2;?", "1x2,?",
		"1x2:0", "1x2:1", "1x2:x", "1x2:??", "1x2: ?", "1x2:? ", "1x2:?\n", " 1x2:?", "1x2 :?", "1 x2:?", "01x2:?", "1x02:?", "+1x2:?", "1x+2:?", "-1x2:?", "1x-2:?", "１x2:?",
		"0x2:?", "0x2:", "0x2", "1x1:?", "1x1:", "1x1", "1x0:?", "1x6:?:?:?:?:?", "1x9:?:?:?:?:?:?:?:?", "7x2" + strings.Repeat(":???????", 7), "10x2:?", "1x10:?",
		"/x2:?", ":x2:?", "1x/:?", "1x::?", "ax2:?", "1xa:?", "\xffx2:?", "1x\xff:?", "1\xff2:?", "\x00x2:?", "1x2:\xff", "1x2:\x00", "1x2:？",
		"2x2:??:1", "2x2:?:1?", "2x2:??1?", "2x2:??:11", "2x2:0?:1?", "2x2:??:?1", "2x2:??:2?", "2x2:?2:??", "2x2:??:1?:", "2x2:??:1?:??", "2x2:??", "2x2:??::1?", "2x2:??:1?\n",
		"2x3:??:??:2?", "2x3:??:??:2?:0?:0?", "2x3:??:??:2?:3?", "2x3:??:??:2?:?0", "2x3:??:??:2?:0??", "2x3:??:??:20:0?", "2x3:??,??,2?,0?", "3x2:???:1??:01", "3x2:??:1?:01?",
		"2x5" + strings.Repeat(":??", 7), "2x5" + strings.Repeat(":??", 9), "2x5:??:??:??:??:??:??:??:5?", "3x3:？:???:???:???:???:???",
		textOfBox(freeBoxOf(5, 4)), textOfBox(freeBoxOf(6, 4)), textOfBox(freeBoxOf(5, 5)), textOfBox(freeBoxOf(6, 5)), textOfBox(freeBoxOf(7, 2)), textOfBox(freeBoxOf(1, 6)),
		free + ":", free + ":??????", free[:len(free)-1], free[:len(free)-7], free + "?", "6x3", "2x2:[?? 1?]", "{1 2 [?]}", strings.Repeat(":", 171), strings.Repeat("?", 171),
		strings.Repeat("1x2:?", 1<<14), "1x2" + strings.Repeat(":?", 1<<15), strings.Repeat("?", 1<<16), strings.Repeat(":", 1<<16), "6x5" + strings.Repeat(":??????", 24) + ":",
	} {
		b, ok := impl.ParseBox(s)
		wantNoBox(t, fmt.Sprintf("ParseBox %.40q", s), b, ok)
	}
}

// noBoxes are what is no box: of wrong sizes, with too few or too many rules, or with texts that are no rules.
func noBoxes() []impl.Box {
	list := []impl.Box{{}, {Rules: []string{"?"}}, {Parts: 1, Sides: 2}, {Parts: 1, Sides: 2, Rules: slices.Repeat([]string{"?"}, 1<<16)}}
	for _, size := range noSizes() {
		parts, sides := size[0], size[1]
		list = append(list, impl.Box{Parts: parts, Sides: sides}, impl.Box{Parts: parts, Sides: sides, Rules: []string{"?"}})
		if parts >= -2 && parts <= 64 && sides >= 1 && sides <= 1001 {
			list = append(list, freeBoxOf(max(parts, 0), sides))
			list = append(list, impl.Box{Parts: parts, Sides: sides, Rules: freeBoxOf(max(parts, 1), max(sides, 2)).Rules})
		}
	}
	for _, size := range boxSizes() {
		b := freeBoxOf(size[0], size[1])
		with := func(rules ...string) {
			list = append(list, impl.Box{Parts: b.Parts, Sides: b.Sides, Rules: rules})
		}
		with(b.Rules[1:]...)
		with(append(slices.Clone(b.Rules), b.Rules[0])...)
		with(append(slices.Clone(b.Rules), "")...)
		with(slices.Repeat([]string{""}, len(b.Rules))...)
		for i := range b.Rules {
			for j, rule := range noRules(b.Parts, b.Sides, i/(b.Sides-1)) {
				if (i+j)%7 == 0 {
					rules := slices.Clone(b.Rules)
					rules[i] = rule
					with(rules...)
				}
			}
		}
	}
	return list
}

func TestBoxesThatAreNone(t *testing.T) {
	for _, b := range noBoxes() {
		failsForBox(t, b)
	}
	for _, size := range boxSizes() {
		if b := freeBoxOf(size[0], size[1]); !impl.IsBox(b) {
			t.Errorf("IsBox%s is false", boxName(b))
		}
	}
}

// failsForBox checks that every function fails for what is no box.
func failsForBox(t *testing.T, b impl.Box) {
	t.Helper()
	what := boxName(b)
	if impl.IsBox(b) {
		t.Errorf("IsBox%s is true", what)
	}
	n, ok := impl.CountOpened(b)
	wantFail(t, "CountOpened"+what, n, ok)
	n, ok = impl.TurnsToOpen(b)
	wantFail(t, "TurnsToOpen"+what, n, ok)
	back, ok := impl.BackBox(b)
	wantNoBox(t, "BackBox"+what, back, ok)
	text, ok := impl.BoxText(b)
	wantFail(t, "BoxText"+what, text, ok)
	failsForRule(t, b, 0, 0)
	failsForRule(t, b, b.Parts-1, b.Sides-2)
	for _, s := range []string{"", "0", "00", "11", strings.Repeat("0", min(max(b.Parts, 0), 64))} {
		failsForBoxState(t, b, s)
	}
}

// failsForBoxState checks that every function that requires a state fails for what is none.
func failsForBoxState(t *testing.T, b impl.Box, s string) {
	t.Helper()
	what := boxName(b) + fmt.Sprintf(" %.20q", s)
	for part := range min(max(b.Parts, 0)+1, 7) {
		failsForTurn(t, b, s, part, 1)
		failsForTurn(t, b, s, part, -1)
	}
	turns, ok := impl.TurnsOf(b, s)
	wantFailList(t, "TurnsOf"+what, turns, ok)
	n, ok := impl.CountBoxed(b, s)
	wantFail(t, "CountBoxed"+what, n, ok)
	far, n, ok := impl.FarthestBoxed(b, s)
	wantFail(t, "FarthestBoxed"+what, far, ok)
	wantFail(t, "FarthestBoxed"+what, n, ok)
	other := strings.Repeat("0", min(max(b.Parts, 0), 64))
	checkNoTurnedWay(t, b, s, s)
	checkNoTurnedWay(t, b, s, other)
	checkNoTurnedWay(t, b, other, s)
}

func TestTextsThatAreNoStatesOfBoxes(t *testing.T) {
	for _, size := range boxSizes() {
		b := freeBoxOf(size[0], size[1])
		fine := off(b.Parts)
		for _, s := range []string{"", fine + "0", fine[1:], fine + "?", fine + "\n", " " + fine, fine + fine, off(7), off(64), off(1 << 16)} {
			failsForBoxState(t, b, s)
		}
		for place := range b.Parts {
			signs := []string{"", "00", "x", "?", " ", "-", "/", ":", "\x00", "\xff", "\n", "０", "9", fmt.Sprint(b.Sides), fmt.Sprint(b.Sides + 1)}
			for _, sign := range signs {
				failsForBoxState(t, b, fine[:place]+sign+fine[place+1:])
			}
		}
		for place := range b.Parts - 2 {
			failsForBoxState(t, b, fine[:place]+"０"+fine[place+3:])
		}
	}
}

func TestBoxesExample(t *testing.T) {
	stairs, ok := impl.ParseBox("2x3:??:??:2?:0?")
	wantBox(t, "ParseBox", stairs, ok, impl.Box{Parts: 2, Sides: 3, Rules: []string{"??", "??", "2?", "0?"}})
	b, ok := impl.StairBox(2, 3)
	wantBox(t, "StairBox 2 3", b, ok, stairs)
	list, ok := impl.FirstTurns(b, "22", "00")
	wantTurns(t, "FirstTurns 22 00", list, ok, []turnTold{{0, -1}, {0, -1}, {1, -1}, {0, 1}, {0, 1}, {1, -1}, {0, -1}, {0, -1}})
	n, ok := impl.TurnsToOpen(b)
	want(t, "TurnsToOpen of StairBox 2 3", n, ok, 8)
	rings, ok := impl.RingBox(3)
	text, fine := impl.BoxText(rings)
	want(t, "BoxText of RingBox 3", text, ok && fine, "3x2:???:1??:01?")
	n, ok = impl.TurnsToOpen(rings)
	want(t, "TurnsToOpen of RingBox 3", n, ok, 5)
	free, ok := impl.FreeBox(2, 3)
	n, fine = impl.CountBoxed(free, "00")
	want(t, "CountBoxed of FreeBox 2 3", n, ok && fine, 9)
}
