package tests

import (
	"fmt"
	"math"
	"math/rand"
	"slices"
	"strings"
	"testing"

	"loop.example/g01314/impl"
)

// Promise 8: ticks lead into cycles that come around, and lamps change as often as told.

const mostTicks = 1000000

var noTickCounts = []int{math.MinInt, -mostTicks, -64, -2, -1, mostTicks + 1, mostTicks + 2, 1 << 20, 1 << 32, math.MaxInt}

var noLampCounts = []int{math.MinInt, -64, -10, -1, 0, 11, 12, 20, 63, 64, 65, 1 << 32, math.MaxInt}

func lampsOf(needs ...string) impl.Lamps {
	return impl.Lamps{Needs: needs}
}

// lampsOfText reads a LampsText by itself.
func lampsOfText(s string) impl.Lamps {
	return impl.Lamps{Needs: strings.Split(s, "/")}
}

// lampsWhere returns so many lamps, in which sign tells the sign that the Needs
// of a lamp have for a lamp.
func lampsWhere(lamps int, sign func(lamp, other int) byte) impl.Lamps {
	var l impl.Lamps
	for lamp := range lamps {
		var signs []byte
		for other := range lamps {
			signs = append(signs, sign(lamp, other))
		}
		l.Needs = append(l.Needs, string(signs))
	}
	return l
}

func countingLampsOf(lamps int) impl.Lamps {
	return lampsWhere(lamps, func(lamp, other int) byte {
		if other < lamp {
			return '1'
		}
		return '?'
	})
}

func runningLampsOf(lamps int) impl.Lamps {
	return lampsWhere(lamps, func(lamp, other int) byte {
		switch {
		case lamp == 0 && other == 0 || other == lamp-1:
			return '1'
		case other == lamp || lamp == 0 && other == lamps-1:
			return '0'
		}
		return '?'
	})
}

// lampsThatNeedNothing change at each tick.
func lampsThatNeedNothing(lamps int) impl.Lamps {
	return lampsWhere(lamps, func(lamp, other int) byte { return '?' })
}

// lampsThatNeedAll change if all lamps, themselves with them, are on, or off.
func lampsThatNeedAll(lamps int, sign byte) impl.Lamps {
	return lampsWhere(lamps, func(lamp, other int) byte { return sign })
}

// lampsThatNeedThemselves change if they themselves are on, or off.
func lampsThatNeedThemselves(lamps int, sign byte) impl.Lamps {
	return lampsWhere(lamps, func(lamp, other int) byte {
		if other == lamp {
			return sign
		}
		return '?'
	})
}

// mixedLamps tell about one of so many signs.
func mixedLamps(random *rand.Rand, lamps, oneOf int) impl.Lamps {
	return lampsWhere(lamps, func(lamp, other int) byte {
		if random.Intn(oneOf) > 0 {
			return '?'
		}
		return '0' + byte(random.Intn(2))
	})
}

// allLamps returns each one of so many of all so many lamps.
func allLamps(lamps, oneOf int) []impl.Lamps {
	signs := digitTexts(slices.Repeat([]int{3}, lamps*lamps))
	var list []impl.Lamps
	for i := 0; i < len(signs); i += oneOf {
		text := strings.ReplaceAll(signs[i], "2", "?")
		list = append(list, lampsWhere(lamps, func(lamp, other int) byte { return text[lamp*lamps+other] }))
	}
	return list
}

// fewLamps are all of one and two lamps, and others of up to 5, the same ones in each run.
func fewLamps() []impl.Lamps {
	list := slices.Concat(allLamps(1, 1), allLamps(2, 1), allLamps(3, 61))
	random := rand.New(rand.NewSource(8))
	for i := range 90 {
		list = append(list, mixedLamps(random, 4+i%2, 2+i%5))
	}
	return append(list, countingLampsOf(3), countingLampsOf(4), runningLampsOf(3), runningLampsOf(5), lampsThatNeedNothing(4), lampsOfText(heldLamps), lampsOfText(twoHeldLamps),
		lampsThatNeedAll(4, '1'), lampsThatNeedAll(3, '0'), lampsThatNeedThemselves(4, '1'), lampsThatNeedThemselves(4, '0'))
}

// manyLamps are 6 up to MaxLamps.
func manyLamps() []impl.Lamps {
	random := rand.New(rand.NewSource(88))
	list := []impl.Lamps{countingLampsOf(9), countingLampsOf(10), runningLampsOf(7), runningLampsOf(10), lampsThatNeedNothing(10), lampsThatNeedAll(10, '1'), lampsThatNeedThemselves(10, '0')}
	for lamps := 6; lamps <= 10; lamps++ {
		for _, oneOf := range []int{3, 4, 6, 10} {
			list = append(list, mixedLamps(random, lamps, oneOf))
		}
	}
	return append(list, heldCounters())
}

// Two lamps that count while the third one is on, which no tick changes when
// the fourth one is off, as that stays: if it is on it goes off at the first tick.
const heldLamps = "??1?/1?1?/???1/???1"

// Of two lamps the first one changes while the third one is on, the second one
// if the first one is on while the fourth one is; the fifth one holds these two
// as in heldLamps.
const twoHeldLamps = "??1??/1??1?/????1/????1/????1"

// heldCounters are 8 lamps that count while the next one is on, which the last one holds.
func heldCounters() impl.Lamps {
	return lampsWhere(10, func(lamp, other int) byte {
		switch {
		case lamp >= 8 && other == 9, lamp < 8 && (other < lamp || other == 8):
			return '1'
		}
		return '?'
	})
}

func lampsName(l impl.Lamps) string {
	return keysName(l.Needs)
}

func wantLamps(t *testing.T, what string, l impl.Lamps, ok bool, wanted impl.Lamps) {
	t.Helper()
	wantList(t, what, l.Needs, ok, wanted.Needs)
}

func wantCycles(t *testing.T, l impl.Lamps, wanted [][]int) {
	t.Helper()
	cycles, ok := impl.CyclesOfLamps(l)
	if !ok || !slices.EqualFunc(cycles, wanted, slices.Equal) {
		t.Errorf("CyclesOfLamps%s: got %v, %v, want %v, true", lampsName(l), cycles, ok, wanted)
	}
}

func wantLead(t *testing.T, l impl.Lamps, s string, lead, length int) {
	t.Helper()
	ticks, states, ok := impl.LeadOfLamps(l, s)
	if !ok || ticks != lead || states != length {
		t.Errorf("LeadOfLamps%s %s: got %d, %d, %v, want %d, %d, true", lampsName(l), s, ticks, states, ok, lead, length)
	}
}

func TestChapter8LimitsAsTold(t *testing.T) {
	if impl.MaxLamps != 10 || impl.MaxTicks != mostTicks {
		t.Error("limits", impl.MaxLamps, impl.MaxTicks)
	}
}

func TestLampsAgainstRules(t *testing.T) {
	for _, l := range slices.Concat(fewLamps(), manyLamps()) {
		rules := rulesOfLamps(l.Needs)
		checkLamps(t, l, rules)
		step := 1 + len(rules.states)/33
		for i := 0; i < len(rules.states); i += step {
			checkLampState(t, l, rules, rules.states[i])
		}
		for _, s := range []string{rules.states[len(rules.states)-1], rules.behind[rules.states[0]]} {
			checkLampState(t, l, rules, s)
		}
	}
}

// checkLamps compares what is told of lamps alone.
func checkLamps(t *testing.T, l impl.Lamps, rules lampRules) {
	t.Helper()
	what := lampsName(l)
	if !impl.AreLamps(l) {
		t.Errorf("AreLamps%s is false", what)
	}
	wantCycles(t, l, rules.cycles())
	undone, ok := impl.IsUndone(l)
	want(t, "IsUndone"+what, undone, ok, len(rules.cyclic) == len(rules.states))
	var still []string
	for _, s := range rules.states {
		if rules.behind[s] == s {
			still = append(still, s)
		}
	}
	list, ok := impl.StillStates(l)
	wantList(t, "StillStates"+what, list, ok, still)
	for lamp := range l.Needs {
		needed, ok := impl.LampsNeeded(l, lamp)
		wantList(t, fmt.Sprint("LampsNeeded", what, " ", lamp), needed, ok, rules.needed(lamp))
	}
}

// checkLampState compares what is told of a state, and of some ticks from it.
func checkLampState(t *testing.T, l impl.Lamps, rules lampRules, s string) {
	t.Helper()
	what := lampsName(l) + " " + s
	next, ok := impl.TickOnce(l, s)
	want(t, "TickOnce"+what, next, ok, rules.behind[s])
	before, ok := impl.StatesBefore(l, s)
	wantList(t, "StatesBefore"+what, before, ok, rules.before(s))
	cycle, ok := impl.CycleOfLamps(l, s)
	wantList(t, "CycleOfLamps"+what, cycle, ok, rules.cycle(s))
	wantLead(t, l, s, rules.lead(s), len(cycle))
	for lamp := range l.Needs {
		n, ok := impl.FirstTick(l, s, lamp)
		if first := rules.firstOn(s, lamp); first >= 0 {
			want(t, fmt.Sprint("FirstTick", what, " ", lamp), n, ok, first)
		} else {
			wantFail(t, fmt.Sprint("FirstTick", what, " ", lamp), n, ok)
		}
	}
	rules.run(s, 20, func(ticks int, behind string, times []int) {
		checkTicks(t, l, s, ticks, behind, times)
	})
}

// checkTicks compares what is told of so many ticks.
func checkTicks(t *testing.T, l impl.Lamps, s string, ticks int, behind string, times []int) {
	t.Helper()
	what := fmt.Sprint(lampsName(l), " ", s, " ", ticks)
	got, ok := impl.TicksAfter(l, s, ticks)
	want(t, "TicksAfter"+what, got, ok, behind)
	changes, ok := impl.TimesChanging(l, s, ticks)
	wantList(t, "TimesChanging"+what, changes, ok, times)
}

func TestLampsThatAreSampled(t *testing.T) {
	// Without these the samples would leave out what the document names.
	undone, leading, several := 0, 0, 0
	for _, l := range fewLamps() {
		rules := rulesOfLamps(l.Needs)
		if len(rules.cyclic) == len(rules.states) {
			undone++
		} else {
			leading++
		}
		if len(rules.cycles()) > 1 {
			several++
		}
	}
	if undone < 10 || leading < 100 || several < 50 {
		t.Error("the samples:", undone, leading, several)
	}
}

// manyTicks are numbers of ticks around the most states that there are, and up to MaxTicks.
func manyTicks() []int {
	ticks := []int{100, 511, 512, 513, 1000, 1021, 4095, 4096, 65535, 65536, 99999, 123456, 500000, 999423, 999424, 999998, 999999, mostTicks}
	for n := 1022; n < 1028; n++ {
		ticks = append(ticks, n, 2*n)
	}
	return ticks
}

func TestManyTicksAgainstRules(t *testing.T) {
	random := rand.New(rand.NewSource(888))
	list := append(manyLamps(), lampsOf("?"), lampsOf("0"), lampsOf("1"), runningLampsOf(2), lampsOfText(twoHeldLamps))
	for i, l := range list {
		if i%3 > 0 && i > 8 && i < len(list)-6 {
			continue
		}
		rules := rulesOfLamps(l.Needs)
		s := rules.states[random.Intn(len(rules.states))]
		told := manyTicks()
		rules.run(s, mostTicks, func(ticks int, behind string, times []int) {
			if slices.Contains(told, ticks) {
				checkTicks(t, l, s, ticks, behind, times)
			}
		})
	}
}

// TicksAfter is what TickOnce gives one after the other.
func TestTicksAfterIsTickOnceAgainAndAgain(t *testing.T) {
	random := rand.New(rand.NewSource(8888))
	for _, l := range []impl.Lamps{countingLampsOf(10), mixedLamps(random, 10, 7), mixedLamps(random, 9, 4), heldCounters(), runningLampsOf(6), lampsOf("?")} {
		start := strings.Repeat("1", len(l.Needs)-1) + "0"
		told := manyTicks()
		for s, ticks := start, 0; ticks <= 3*mostTicks/10; ticks++ {
			if ticks < 50 || slices.Contains(told, ticks) {
				behind, ok := impl.TicksAfter(l, start, ticks)
				want(t, fmt.Sprint("TicksAfter", lampsName(l), " ", start, " ", ticks), behind, ok, s)
			}
			next, ok := impl.TickOnce(l, s)
			if !ok {
				t.Fatalf("TickOnce%s %s fails", lampsName(l), s)
			}
			s = next
		}
	}
}

func TestMostTicksIsTickOnceAgainAndAgain(t *testing.T) {
	l := countingLampsOf(10)
	s := "0110100111"
	for range mostTicks {
		s, _ = impl.TickOnce(l, s)
	}
	behind, ok := impl.TicksAfter(l, "0110100111", mostTicks)
	want(t, "TicksAfter most ticks", behind, ok, s)
}

// Ticks in two parts lead to the same state, and change each lamp as often
// together; a lamp is as it was just if it has changed an even number of times.
func TestTicksInTwoParts(t *testing.T) {
	random := rand.New(rand.NewSource(80))
	for _, l := range slices.Concat(fewLamps(), manyLamps()) {
		states := statesOf(len(l.Needs))
		s := states[random.Intn(len(states))]
		ticks := random.Intn(mostTicks + 1)
		first := random.Intn(ticks + 1)
		what := fmt.Sprint(lampsName(l), " ", s, " ", first, " ", ticks)
		middle, _ := impl.TicksAfter(l, s, first)
		last, ok := impl.TicksAfter(l, middle, ticks-first)
		all, _ := impl.TicksAfter(l, s, ticks)
		want(t, "TicksAfter in two parts"+what, last, ok, all)
		times, _ := impl.TimesChanging(l, s, first)
		more, ok := impl.TimesChanging(l, middle, ticks-first)
		together, _ := impl.TimesChanging(l, s, ticks)
		for lamp := range min(len(times), len(more)) {
			more[lamp] += times[lamp]
		}
		wantList(t, "TimesChanging in two parts"+what, more, ok, together)
		for lamp, n := range together {
			if (n%2 == 0) != (all[lamp] == s[lamp]) {
				t.Errorf("TimesChanging%s: %d times, but %s leads to %s", what, n, s, all)
			}
		}
	}
}

func TestCyclesComeAround(t *testing.T) {
	for _, l := range slices.Concat(fewLamps(), manyLamps()) {
		states := statesOf(len(l.Needs))
		for i := 0; i < len(states); i += 1 + len(states)/16 {
			s := states[i]
			cycle, ok := impl.CycleOfLamps(l, s)
			lead, length, fine := impl.LeadOfLamps(l, s)
			if !ok || !fine || length != len(cycle) || len(cycle) == 0 || cycle[0] != slices.Min(cycle) {
				t.Fatalf("CycleOfLamps%s %s: %v, and %d, %d", lampsName(l), s, cycle, lead, length)
			}
			for j, at := range cycle {
				next, _ := impl.TickOnce(l, at)
				want(t, "TickOnce in a cycle"+lampsName(l)+" "+at, next, ok, cycle[(j+1)%len(cycle)])
			}
			entry, _ := impl.TicksAfter(l, s, lead)
			back, ok := impl.TicksAfter(l, s, lead+length)
			want(t, "TicksAfter around"+lampsName(l)+" "+s, back, ok, entry)
			if !slices.Contains(cycle, entry) || lead > 0 && slices.Contains(cycle, s) {
				t.Errorf("LeadOfLamps%s %s is %d, to %s", lampsName(l), s, lead, entry)
			}
		}
	}
}

func TestCyclesAreThoseOfTheirStates(t *testing.T) {
	for _, l := range slices.Concat(fewLamps(), manyLamps()) {
		inCycles := 0
		for _, s := range statesOf(len(l.Needs)) {
			if lead, _, _ := impl.LeadOfLamps(l, s); lead == 0 {
				inCycles++
			}
		}
		cycles, ok := impl.CyclesOfLamps(l)
		told, last := 0, 0
		for _, cycle := range cycles {
			if len(cycle) != 2 || cycle[0] <= last || cycle[1] < 1 {
				t.Fatalf("CyclesOfLamps%s: %v", lampsName(l), cycles)
			}
			told += cycle[0] * cycle[1]
			last = cycle[0]
		}
		want(t, "CyclesOfLamps together"+lampsName(l), told, ok, inCycles)
		undone, ok := impl.IsUndone(l)
		want(t, "IsUndone"+lampsName(l), undone, ok, inCycles == 1<<len(l.Needs))
		still, ok := impl.StillStates(l)
		one := 0
		if cycles[0][0] == 1 {
			one = cycles[0][1]
		}
		want(t, "StillStates and cycles"+lampsName(l), len(still), ok, one)
	}
}

func TestOneLamp(t *testing.T) {
	for _, c := range []struct {
		needs  string
		behind [2]string
		before [2][]string
		cycle  [2][]string
		lead   [2]int
		first  [2]int // -1 if the lamp never is on
		times  [2]int // in 7 ticks
		cycles [][]int
		undone bool
		still  []string
		needed []int
	}{
		{"?", [2]string{"1", "0"}, [2][]string{{"1"}, {"0"}}, [2][]string{{"0", "1"}, {"0", "1"}}, [2]int{0, 0}, [2]int{1, 0}, [2]int{7, 7}, [][]int{{2, 1}}, true, nil, nil},
		{"0", [2]string{"1", "1"}, [2][]string{nil, {"0", "1"}}, [2][]string{{"1"}, {"1"}}, [2]int{1, 0}, [2]int{1, 0}, [2]int{1, 0}, [][]int{{1, 1}}, false, []string{"1"}, []int{0}},
		{"1", [2]string{"0", "0"}, [2][]string{{"0", "1"}, nil}, [2][]string{{"0"}, {"0"}}, [2]int{0, 1}, [2]int{-1, 0}, [2]int{0, 1}, [][]int{{1, 1}}, false, []string{"0"}, []int{0}},
	} {
		l := lampsOf(c.needs)
		for i, s := range []string{"0", "1"} {
			what := " of one lamp " + c.needs + " " + s
			next, ok := impl.TickOnce(l, s)
			want(t, "TickOnce"+what, next, ok, c.behind[i])
			before, ok := impl.StatesBefore(l, s)
			wantList(t, "StatesBefore"+what, before, ok, c.before[i])
			cycle, ok := impl.CycleOfLamps(l, s)
			wantList(t, "CycleOfLamps"+what, cycle, ok, c.cycle[i])
			wantLead(t, l, s, c.lead[i], len(c.cycle[i]))
			times, ok := impl.TimesChanging(l, s, 7)
			wantList(t, "TimesChanging"+what, times, ok, []int{c.times[i]})
			n, ok := impl.FirstTick(l, s, 0)
			if c.first[i] >= 0 {
				want(t, "FirstTick"+what, n, ok, c.first[i])
			} else {
				wantFail(t, "FirstTick"+what, n, ok)
			}
		}
		wantCycles(t, l, c.cycles)
		undone, ok := impl.IsUndone(l)
		want(t, "IsUndone "+c.needs, undone, ok, c.undone)
		still, ok := impl.StillStates(l)
		wantList(t, "StillStates "+c.needs, still, ok, c.still)
		needed, ok := impl.LampsNeeded(l, 0)
		wantList(t, "LampsNeeded "+c.needs, needed, ok, c.needed)
		text, ok := impl.LampsText(l)
		want(t, "LampsText "+c.needs, text, ok, c.needs)
		parsed, ok := impl.ParseLamps(c.needs)
		wantLamps(t, "ParseLamps "+c.needs, parsed, ok, l)
	}
}

func TestCountingLamps(t *testing.T) {
	for lamps, text := range map[int]string{
		1: "?",
		2: "??/1?",
		3: "???/1??/11?",
		4: "????/1???/11??/111?",
		10: "??????????/1?????????/11????????/111???????/1111??????/11111?????/" +
			"111111????/1111111???/11111111??/111111111?",
	} {
		l, ok := impl.CountingLamps(lamps)
		wantLamps(t, fmt.Sprint("CountingLamps ", lamps), l, ok, lampsOfText(text))
	}
	for lamps := 1; lamps <= 10; lamps++ {
		l, ok := impl.CountingLamps(lamps)
		wantLamps(t, fmt.Sprint("CountingLamps ", lamps), l, ok, countingLampsOf(lamps))
		wantCycles(t, l, [][]int{{1 << lamps, 1}})
		undone, ok := impl.IsUndone(l)
		want(t, fmt.Sprint("IsUndone of CountingLamps ", lamps), undone, ok, true)
		for n := range 1 << lamps {
			if lamps < 8 || n%37 == 0 || n > 1<<lamps-3 {
				checkCounting(t, l, n)
			}
		}
	}
	for _, lamps := range noLampCounts {
		l, ok := impl.CountingLamps(lamps)
		wantFailList(t, fmt.Sprint("CountingLamps ", lamps), l.Needs, ok)
	}
}

// countedState returns the state of so many lamps that are the binary digits of a number, that of 1 first.
func countedState(lamps, n int) string {
	var s string
	for range lamps {
		s += fmt.Sprint(n % 2)
		n /= 2
	}
	return s
}

// checkCounting checks that ticks count on from a number.
func checkCounting(t *testing.T, l impl.Lamps, n int) {
	t.Helper()
	lamps := len(l.Needs)
	s := countedState(lamps, n)
	next, ok := impl.TickOnce(l, s)
	want(t, "TickOnce of counting lamps "+s, next, ok, countedState(lamps, n+1))
	before, ok := impl.StatesBefore(l, s)
	wantList(t, "StatesBefore of counting lamps "+s, before, ok, []string{countedState(lamps, n+1<<lamps-1)})
	wantLead(t, l, s, 0, 1<<lamps)
	for _, ticks := range []int{0, 1, 7, 1 << lamps, 12345, mostTicks} {
		behind, ok := impl.TicksAfter(l, s, ticks)
		want(t, fmt.Sprint("TicksAfter of counting lamps ", s, " ", ticks), behind, ok, countedState(lamps, n+ticks))
		var carried []int
		for lamp := range lamps {
			carried = append(carried, (n+ticks)>>lamp-n>>lamp)
		}
		times, ok := impl.TimesChanging(l, s, ticks)
		wantList(t, fmt.Sprint("TimesChanging of counting lamps ", s, " ", ticks), times, ok, carried)
	}
	for lamp := range lamps {
		// So many more are needed until the lamps from 0 up to this one are off but for this one.
		first := 0
		if s[lamp] == '0' {
			first = 1<<lamp - n%(1<<lamp)
		}
		ticks, ok := impl.FirstTick(l, s, lamp)
		want(t, fmt.Sprint("FirstTick of counting lamps ", s, " ", lamp), ticks, ok, first)
	}
}

func TestRunningLamps(t *testing.T) {
	for lamps, text := range map[int]string{
		2: "10/10",
		3: "1?0/10?/?10",
		4: "1??0/10??/?10?/??10",
		10: "1????????0/10????????/?10???????/??10??????/???10?????/????10????/" +
			"?????10???/??????10??/???????10?/????????10",
	} {
		l, ok := impl.RunningLamps(lamps)
		wantLamps(t, fmt.Sprint("RunningLamps ", lamps), l, ok, lampsOfText(text))
	}
	for lamps := 2; lamps <= 10; lamps++ {
		l, ok := impl.RunningLamps(lamps)
		wantLamps(t, fmt.Sprint("RunningLamps ", lamps), l, ok, runningLampsOf(lamps))
		for _, s := range statesOf(lamps) {
			next, ok := impl.TickOnce(l, s)
			want(t, "TickOnce of running lamps "+s, next, ok, ranOn(s))
		}
	}
	for _, lamps := range append(noLampCounts, 1) {
		l, ok := impl.RunningLamps(lamps)
		wantFailList(t, fmt.Sprint("RunningLamps ", lamps), l.Needs, ok)
	}
}

// ranOn returns the state behind a tick of running lamps: those that are off go
// on behind one that is on, and the first one goes off if the last one is off.
func ranOn(s string) string {
	next := []byte(s)
	for lamp := 1; lamp < len(s); lamp++ {
		if s[lamp] == '0' && s[lamp-1] == '1' {
			next[lamp] = '1'
		}
	}
	if s[0] == '1' && s[len(s)-1] == '0' {
		next[0] = '0'
	}
	return string(next)
}

func TestLampsThatNeedNothing(t *testing.T) {
	for lamps := 1; lamps <= 10; lamps++ {
		l := lampsThatNeedNothing(lamps)
		wantCycles(t, l, [][]int{{2, 1 << (lamps - 1)}})
		undone, ok := impl.IsUndone(l)
		want(t, "IsUndone"+lampsName(l), undone, ok, true)
		still, ok := impl.StillStates(l)
		wantList(t, "StillStates"+lampsName(l), still, ok, nil)
		for lamp := range lamps {
			needed, ok := impl.LampsNeeded(l, lamp)
			wantList(t, "LampsNeeded"+lampsName(l), needed, ok, nil)
		}
		for i, s := range statesOf(lamps) {
			if i%5 > 0 && i > 20 {
				continue
			}
			other := exchangedText(s)
			next, ok := impl.TickOnce(l, s)
			want(t, "TickOnce of lamps that need nothing "+s, next, ok, other)
			before, ok := impl.StatesBefore(l, s)
			wantList(t, "StatesBefore of lamps that need nothing "+s, before, ok, []string{other})
			cycle, ok := impl.CycleOfLamps(l, s)
			wantList(t, "CycleOfLamps of lamps that need nothing "+s, cycle, ok, []string{min(s, other), max(s, other)})
			wantLead(t, l, s, 0, 2)
			checkTicks(t, l, s, mostTicks, s, slices.Repeat([]int{mostTicks}, lamps))
			checkTicks(t, l, s, mostTicks-1, other, slices.Repeat([]int{mostTicks - 1}, lamps))
		}
	}
}

// Lamps that need just themselves go on, or off, and stay so.
func TestLampsThatNeedThemselves(t *testing.T) {
	for lamps := 1; lamps <= 10; lamps++ {
		none, all := off(lamps), strings.Repeat("1", lamps)
		for sign, end := range map[byte]string{'1': none, '0': all} {
			l := lampsThatNeedThemselves(lamps, sign)
			wantCycles(t, l, [][]int{{1, 1}})
			undone, ok := impl.IsUndone(l)
			want(t, "IsUndone"+lampsName(l), undone, ok, false)
			still, ok := impl.StillStates(l)
			wantList(t, "StillStates"+lampsName(l), still, ok, []string{end})
			before, ok := impl.StatesBefore(l, end)
			wantList(t, "StatesBefore"+lampsName(l), before, ok, statesOf(lamps))
			before, ok = impl.StatesBefore(l, exchangedText(end))
			wantList(t, "StatesBefore"+lampsName(l), before, ok, nil)
			wantLead(t, l, end, 0, 1)
			wantLead(t, l, exchangedText(end), 1, 1)
			checkTicks(t, l, end, mostTicks, end, make([]int, lamps))
			checkTicks(t, l, exchangedText(end), mostTicks, end, slices.Repeat([]int{1}, lamps))
			for lamp := range lamps {
				needed, ok := impl.LampsNeeded(l, lamp)
				wantList(t, "LampsNeeded"+lampsName(l), needed, ok, []int{lamp})
				checkFirstTick(t, l, end, lamp, sign == '1')
			}
		}
	}
}

// checkFirstTick checks a lamp that is as it is behind all ticks, either never on or on at once.
func checkFirstTick(t *testing.T, l impl.Lamps, s string, lamp int, never bool) {
	t.Helper()
	what := fmt.Sprint("FirstTick", lampsName(l), " ", s, " ", lamp)
	n, ok := impl.FirstTick(l, s, lamp)
	if never {
		wantFail(t, what, n, ok)
	} else {
		want(t, what, n, ok, 0)
	}
}

// A state that a tick leaves as it is has a cycle of its own.
func TestStillStates(t *testing.T) {
	for _, c := range []struct {
		text  string
		still []string
	}{
		{"?1/?1", []string{"00", "10"}},
		{"?1/1?", []string{"00"}},
		{"1?/??", nil},
		{"10/01", []string{"00", "11"}},
		{"111/111/111", []string{"000", "001", "010", "011", "100", "101", "110"}},
		{"000/111/010", []string{"001", "011", "100", "101", "110"}},
		{"???/111/111", nil},
		{"1?0/10?/?10", []string{"000", "001", "011", "111"}},
		{heldLamps, []string{"0000", "0100", "1000", "1100"}},
	} {
		l := lampsOfText(c.text)
		still, ok := impl.StillStates(l)
		wantList(t, "StillStates "+c.text, still, ok, c.still)
		for _, s := range c.still {
			next, ok := impl.TickOnce(l, s)
			want(t, "TickOnce "+c.text+" "+s, next, ok, s)
			cycle, ok := impl.CycleOfLamps(l, s)
			wantList(t, "CycleOfLamps "+c.text+" "+s, cycle, ok, []string{s})
			wantLead(t, l, s, 0, 1)
			checkTicks(t, l, s, mostTicks, s, make([]int, len(s)))
			for lamp := range s {
				checkFirstTick(t, l, s, lamp, s[lamp] == '0')
			}
		}
	}
}

func TestStatesThatLeadIntoCycles(t *testing.T) {
	for _, c := range []struct {
		text  string
		s     string
		lead  int
		cycle string
	}{
		{"?0/??", "00", 0, "00 11 10 01"},
		{"?0/??", "10", 0, "00 11 10 01"},
		{"?1/?1", "01", 1, "10"},
		{"?1/?1", "11", 1, "00"},
		{"111/111/111", "111", 1, "000"},
		{"1?0/10?/?10", "100", 2, "011"},
		{"1?0/10?/?10", "010", 1, "011"},
		{"1?0/10?/?10", "110", 1, "011"},
		{"1?0/10?/?10", "101", 1, "111"},
		{heldLamps, "0010", 0, "0010 1010 0110 1110"},
		{heldLamps, "1110", 0, "0010 1010 0110 1110"},
		{heldLamps, "1111", 1, "0000"},
		{heldLamps, "1001", 1, "0010 1010 0110 1110"},
		{heldLamps, "0101", 1, "0010 1010 0110 1110"},
	} {
		l := lampsOfText(c.text)
		wanted := strings.Split(c.cycle, " ")
		cycle, ok := impl.CycleOfLamps(l, c.s)
		wantList(t, "CycleOfLamps "+c.text+" "+c.s, cycle, ok, wanted)
		wantLead(t, l, c.s, c.lead, len(wanted))
	}
}

// Ticks lead over all lamps in turn before they come to the state that stays.
func TestLongLeads(t *testing.T) {
	for lamps := 2; lamps <= 10; lamps++ {
		l := runningLampsOf(lamps)
		end := "0" + strings.Repeat("1", lamps-1)
		wantLead(t, l, "1"+off(lamps-1), lamps-1, 1)
		cycle, ok := impl.CycleOfLamps(l, "1"+off(lamps-1))
		wantList(t, "CycleOfLamps"+lampsName(l), cycle, ok, []string{end})
		checkTicks(t, l, "1"+off(lamps-1), mostTicks, end, slices.Repeat([]int{1}, lamps))
		for lamp := range lamps {
			n, ok := impl.FirstTick(l, "1"+off(lamps-1), lamp)
			want(t, fmt.Sprint("FirstTick", lampsName(l), " ", lamp), n, ok, lamp)
		}
	}
	// They count until the last lamp is on, and each state in which it is stays.
	for lamps := 1; lamps <= 10; lamps++ {
		l := countingLampsOf(lamps)
		last := strings.Repeat("1", lamps)
		for lamp := range lamps {
			l.Needs[lamp] = l.Needs[lamp][:lamps-1] + "0"
		}
		end := off(lamps-1) + "1"
		wantLead(t, l, off(lamps), 1<<(lamps-1), 1)
		wantLead(t, l, last, 0, 1)
		cycle, ok := impl.CycleOfLamps(l, off(lamps))
		wantList(t, "CycleOfLamps"+lampsName(l), cycle, ok, []string{end})
		wantCycles(t, l, [][]int{{1, 1 << (lamps - 1)}})
	}
}

func TestStatesBefore(t *testing.T) {
	for _, c := range []struct {
		text   string
		s      string
		before string
	}{
		{"?1/?1", "00", "00 11"}, {"?1/?1", "10", "01 10"}, {"?1/?1", "01", ""}, {"?1/?1", "11", ""},
		{"?0/??", "00", "01"}, {"?0/??", "11", "00"}, {"?0/??", "10", "11"}, {"?0/??", "01", "10"},
		{"111/111/111", "000", "000 111"}, {"111/111/111", "111", ""}, {"111/111/111", "011", "011"},
		{"1?0/10?/?10", "011", "010 011 110"}, {"1?0/10?/?10", "100", ""}, {"1?0/10?/?10", "111", "101 111"}, {"1?0/10?/?10", "001", "001"}, {"1?0/10?/?10", "010", "100"},
		{heldLamps, "0000", "0000 1111"}, {heldLamps, "0010", "0001 1110"}, {heldLamps, "1010", "0010 1001"}, {heldLamps, "1111", ""},
	} {
		var wanted []string
		if c.before != "" {
			wanted = strings.Split(c.before, " ")
		}
		before, ok := impl.StatesBefore(lampsOfText(c.text), c.s)
		wantList(t, "StatesBefore "+c.text+" "+c.s, before, ok, wanted)
	}
}

func TestLampsOfWhichEachStateHasOneBeforeIt(t *testing.T) {
	for text, undone := range map[string]bool{
		"?": true, "0": false, "1": false,
		"??/??": true, "??/1?": true, "??/0?": true, "?1/??": true, "?0/??": true,
		"?1/1?": false, // 00 and 11 lead to 00
		"?0/1?": false, // 01 and 10 lead to 01
		"?1/?1": false, "10/10": false, "11/11": false, "00/00": false, "10/01": false,
		"???/1??/01?": true, "???/1??/10?": true, "???/1??/11?": true,
		"???/1??/?0?": true,
		"???/1?1/11?": false, // 101 and 110 lead to 011
		"1?0/10?/?10": false,
		heldLamps:     false,
		twoHeldLamps:  false,
	} {
		l := lampsOfText(text)
		rules := rulesOfLamps(l.Needs)
		if (len(rules.cyclic) == len(rules.states)) != undone {
			t.Fatal("the test is wrong:", text)
		}
		got, ok := impl.IsUndone(l)
		want(t, "IsUndone "+text, got, ok, undone)
		one := 0
		for _, s := range rules.states {
			if before, _ := impl.StatesBefore(l, s); len(before) == 1 {
				one++
			}
		}
		want(t, "IsUndone and StatesBefore "+text, got, ok, one == len(rules.states))
	}
}

func TestCyclesOfSeveralLengths(t *testing.T) {
	for text, cycles := range map[string][][]int{
		"?":           {{2, 1}},
		"0":           {{1, 1}},
		"??/??":       {{2, 2}},
		"?1/?1":       {{1, 2}},
		"?0/??":       {{4, 1}},
		"10/01":       {{1, 2}},
		"???/1??/11?": {{8, 1}},
		"111/111/111": {{1, 7}},
		"1?0/10?/?10": {{1, 4}},
		heldLamps:     {{1, 4}, {4, 1}},
		twoHeldLamps:  {{1, 6}, {2, 3}, {4, 1}},
	} {
		wantCycles(t, lampsOfText(text), cycles)
	}
	wantCycles(t, heldCounters(), [][]int{{1, 256}, {256, 1}})
	wantCycles(t, lampsThatNeedAll(10, '1'), [][]int{{1, 1023}})
	wantCycles(t, lampsThatNeedAll(10, '0'), [][]int{{1, 1023}})
}

func TestFirstTickAtOnceAndNever(t *testing.T) {
	for _, c := range []struct {
		text  string
		s     string
		lamp  int
		first int // -1 if the lamp never is on
	}{
		{"?1/?1", "00", 0, -1}, {"?1/?1", "00", 1, -1}, {"?1/?1", "10", 0, 0}, {"?1/?1", "10", 1, -1}, {"?1/?1", "01", 0, 1}, {"?1/?1", "01", 1, 0}, {"?1/?1", "11", 0, 0},
		{"?0/??", "00", 0, 1}, {"?0/??", "01", 0, 2}, {"?0/??", "10", 1, 1}, {"?0/??", "10", 0, 0},
		{heldLamps, "0000", 0, -1}, {heldLamps, "0010", 0, 1}, {heldLamps, "0010", 1, 2}, {heldLamps, "0010", 3, -1}, {heldLamps, "0001", 0, 2}, {heldLamps, "0001", 1, 3}, {heldLamps, "0001", 2, 1},
		{"???/1??/11?", "000", 2, 4}, {"???/1??/11?", "001", 2, 0}, {"???/1??/11?", "110", 2, 1}, {"???/1??/11?", "100", 2, 3},
	} {
		what := fmt.Sprint("FirstTick ", c.text, " ", c.s, " ", c.lamp)
		n, ok := impl.FirstTick(lampsOfText(c.text), c.s, c.lamp)
		if c.first < 0 {
			wantFail(t, what, n, ok)
		} else {
			want(t, what, n, ok, c.first)
		}
	}
}

func TestNoTicksAndMostTicks(t *testing.T) {
	for _, l := range slices.Concat(fewLamps(), manyLamps()) {
		for i, s := range statesOf(len(l.Needs)) {
			if i%29 == 0 {
				checkTicks(t, l, s, 0, s, make([]int, len(s)))
			}
			if i%211 == 0 {
				if _, ok := impl.TicksAfter(l, s, mostTicks); !ok {
					t.Errorf("TicksAfter%s %s fails of most ticks", lampsName(l), s)
				}
				if _, ok := impl.TimesChanging(l, s, mostTicks); !ok {
					t.Errorf("TimesChanging%s %s fails of most ticks", lampsName(l), s)
				}
			}
		}
		for _, ticks := range noTickCounts {
			failsForTicks(t, l, off(len(l.Needs)), ticks)
		}
	}
}

func failsForTicks(t *testing.T, l impl.Lamps, s string, ticks int) {
	t.Helper()
	what := lampsName(l) + fmt.Sprintf(" %.20q %d", s, ticks)
	behind, ok := impl.TicksAfter(l, s, ticks)
	wantFail(t, "TicksAfter"+what, behind, ok)
	times, ok := impl.TimesChanging(l, s, ticks)
	wantFailList(t, "TimesChanging"+what, times, ok)
}

func TestLampsNeeded(t *testing.T) {
	for _, c := range []struct {
		text   string
		lamp   int
		needed []int
	}{
		{"?", 0, nil}, {"0", 0, []int{0}}, {"1", 0, []int{0}}, {"??/01", 0, nil}, {"??/01", 1, []int{0, 1}}, {"?1/0?", 0, []int{1}}, {"?1/0?", 1, []int{0}},
		{"1?0/10?/?10", 0, []int{0, 2}}, {"1?0/10?/?10", 1, []int{0, 1}}, {"1?0/10?/?10", 2, []int{1, 2}}, {"010/???/?1?", 0, []int{0, 1, 2}}, {"010/???/?1?", 2, []int{1}},
	} {
		needed, ok := impl.LampsNeeded(lampsOfText(c.text), c.lamp)
		wantList(t, fmt.Sprint("LampsNeeded ", c.text, " ", c.lamp), needed, ok, c.needed)
	}
	for lamp := range 10 {
		needed, ok := impl.LampsNeeded(countingLampsOf(10), lamp)
		wantList(t, fmt.Sprint("LampsNeeded of 10 counting lamps ", lamp), needed, ok, firstNumbers(lamp))
		needed, ok = impl.LampsNeeded(lampsThatNeedAll(10, '0'), lamp)
		wantList(t, fmt.Sprint("LampsNeeded of lamps that need all ", lamp), needed, ok, firstNumbers(10))
	}
}

func TestLampsThatThereAreNot(t *testing.T) {
	for _, l := range []impl.Lamps{lampsOf("?"), runningLampsOf(2), countingLampsOf(3), lampsThatNeedAll(9, '1'), countingLampsOf(10)} {
		for _, lamp := range noRings(len(l.Needs)) {
			if lamp >= 0 && lamp < len(l.Needs) {
				continue
			}
			what := fmt.Sprint(lampsName(l), " ", lamp)
			for _, s := range []string{off(len(l.Needs)), strings.Repeat("1", len(l.Needs))} {
				n, ok := impl.FirstTick(l, s, lamp)
				wantFail(t, "FirstTick"+what, n, ok)
			}
			needed, ok := impl.LampsNeeded(l, lamp)
			wantFailList(t, "LampsNeeded"+what, needed, ok)
		}
	}
}

func TestOtherLamps(t *testing.T) {
	for text, other := range map[string]string{
		"?": "?", "0": "1", "1": "0", "??/??": "??/??", "?0/1?": "?1/0?", "01/10": "10/01", "???/1??/11?": "???/0??/00?", "1?0/10?/?10": "0?1/01?/?01",
	} {
		l, ok := impl.OtherLamps(lampsOfText(text))
		wantLamps(t, "OtherLamps "+text, l, ok, lampsOfText(other))
	}
	for _, l := range slices.Concat(fewLamps(), manyLamps()) {
		var wanted []string
		for _, need := range l.Needs {
			wanted = append(wanted, exchangedText(need))
		}
		other, ok := impl.OtherLamps(l)
		wantLamps(t, "OtherLamps"+lampsName(l), other, ok, lampsOf(wanted...))
		back, ok := impl.OtherLamps(other)
		wantLamps(t, "OtherLamps twice"+lampsName(l), back, ok, l)
		for i, s := range statesOf(len(l.Needs)) {
			if i%37 < 3 {
				next, _ := impl.TickOnce(l, s)
				exchanged, ok := impl.TickOnce(other, exchangedText(s))
				want(t, "TickOnce of other lamps"+lampsName(l)+" "+s, exchanged, ok, exchangedText(next))
			}
		}
	}
}

func TestLampsTextAndParseLamps(t *testing.T) {
	for _, l := range slices.Concat(fewLamps(), manyLamps()) {
		wanted := l.Needs[0]
		for _, s := range l.Needs[1:] {
			wanted += "/" + s
		}
		text, ok := impl.LampsText(l)
		want(t, "LampsText"+lampsName(l), text, ok, wanted)
		parsed, ok := impl.ParseLamps(wanted)
		wantLamps(t, "ParseLamps "+wanted, parsed, ok, l)
	}
}

func TestTextsThatAreNoLamps(t *testing.T) {
	ten := strings.Join(countingLampsOf(10).Needs, "/")
	for _, s := range []string{
		"", "/", "//", "2", "x", " ", "-", "*", "\n", "\x00", "\xff", "？", "１", "??", "01", "?/", "/?", "?/?", "0/1", " ?", "? ", "?\n", "\n?", "1 ", "+1",
		"??/?", "?/??", "??/", "/??", "??/??/", "/??/??", "??//??", "??/??/??", "11/11/11", "??,??", "??;??", "??:??", "??|??", "??\\??", "????", "0101",
		"?? /??", "??/ ??", "??/??\n", " ??/??", "??\n/??", "?2/??", "??/x?", "?-/??", "??/?>", "?@/??", "?./??", "?１/??", "2?/??", "a?/1?", "\x00?/??", "??/?\xff",
		"???/1??/11", "???/1??/11??", "???/1??/112", "???/1??", "???/1??/11?/", "???/???", "??/??/???", "[??]", "\"?\"", "{[?]}",
		strings.Repeat("?", 10), strings.Repeat("0", 109), strings.Repeat("?", 109), strings.Repeat("/", 109), strings.Repeat("?", 110), strings.Repeat("/", 110),
		strings.Join(countingLampsOf(11).Needs, "/"), strings.Join(lampsThatNeedNothing(12).Needs, "/"), ten + "/", "/" + ten, ten + "?", "?" + ten, ten[1:], ten[:len(ten)-1],
		ten + "/??????????", ten[:len(ten)-11], strings.Repeat("?/", 1<<15), strings.Repeat("?", 1<<16), strings.Repeat("/", 1<<16),
	} {
		l, ok := impl.ParseLamps(s)
		wantFailList(t, fmt.Sprintf("ParseLamps %.60q", s), l.Needs, ok)
	}
}

// noLamps are lists of texts that are not those of lamps.
func noLamps() []impl.Lamps {
	lists := [][]string{
		nil, {}, {""}, {"2"}, {"x"}, {" "}, {"-"}, {"\x00"}, {"\xff"}, {"??"}, {"01"}, {"/"}, {"?", "?"}, {"0", "1"}, {"?", "??"}, {"??", "?"}, {"??"}, {"11"}, {"??", ""}, {"", "??"},
		{"", ""}, {"??", "???"}, {"???", "??"}, {"111", "1?"}, {"??", "??", "??"}, {"???", "???"}, {"???", "???", "???", "???"}, {"???", "???", "??"}, {"???", "??", "????"},
		{"?2", "??"}, {"??", "x?"}, {"? ", "??"}, {"??", "-?"}, {"?\x00", "??"}, {"\xff?", "??"}, {"??", "?\n"}, {"?/", "??"}, {"??/??"}, {"/?", "??"}, {"0?1", "2?1", "0?1"},
		{"?0", "?>"}, {"?@", "??"}, {"?.", "??"}, {"x?", "??"}, {"??", "?*"}, {"2??", "???", "???"}, {"？", "???", "???"}, {"？"}, {"?？", "????", "????", "????"}, {"1x1", "111", "111"},
		{"??\n", "???", "???"}, {"??x", "???", "???"}, {"?0?", "1?x", "???"}, {"?0?", "1?1", "3??"}, {"???", "???", "?:?"},
		lampsThatNeedNothing(11).Needs, countingLampsOf(11).Needs, lampsThatNeedAll(12, '0').Needs, countingLampsOf(20).Needs, lampsThatNeedNothing(64).Needs, lampsThatNeedNothing(65).Needs,
		append(lampsThatNeedNothing(10).Needs, "??????????"), countingLampsOf(10).Needs[1:], slices.Repeat([]string{"?"}, 1<<16), {strings.Repeat("?", 1<<16)}, {strings.Repeat("?", 65), "??"},
	}
	for k := range 10 {
		for _, sign := range []string{"", "2", "??", "00", "x", "/", " ", "\x00"} {
			needs := countingLampsOf(10).Needs
			for _, place := range []int{0, k, 9} {
				changed := slices.Clone(needs)
				changed[k] = changed[k][:place] + sign + changed[k][place+1:]
				lists = append(lists, changed)
			}
		}
	}
	var list []impl.Lamps
	for _, needs := range lists {
		list = append(list, impl.Lamps{Needs: needs})
	}
	return list
}

func TestListsThatAreNoLamps(t *testing.T) {
	for _, l := range noLamps() {
		failsForLamps(t, l)
	}
}

// failsForLamps checks that every function fails for what are no lamps.
func failsForLamps(t *testing.T, l impl.Lamps) {
	t.Helper()
	what := lampsName(l)
	if impl.AreLamps(l) {
		t.Errorf("AreLamps%s is true", what)
	}
	undone, ok := impl.IsUndone(l)
	wantFail(t, "IsUndone"+what, undone, ok)
	cycles, ok := impl.CyclesOfLamps(l)
	wantFailList(t, "CyclesOfLamps"+what, cycles, ok)
	still, ok := impl.StillStates(l)
	wantFailList(t, "StillStates"+what, still, ok)
	needed, ok := impl.LampsNeeded(l, 0)
	wantFailList(t, "LampsNeeded"+what, needed, ok)
	other, ok := impl.OtherLamps(l)
	wantFailList(t, "OtherLamps"+what, other.Needs, ok)
	text, ok := impl.LampsText(l)
	wantFail(t, "LampsText"+what, text, ok)
	for _, s := range []string{"", "0", "00", "111", off(10), off(11), off(min(len(l.Needs), 70))} {
		failsForLampState(t, l, s)
	}
	if len(l.Needs) > 0 {
		failsForLampState(t, l, off(min(len(l.Needs[0]), 70)))
	}
}

// failsForLampState checks that every function that requires a state fails for what is none.
func failsForLampState(t *testing.T, l impl.Lamps, s string) {
	t.Helper()
	what := lampsName(l) + fmt.Sprintf(" %.20q", s)
	next, ok := impl.TickOnce(l, s)
	wantFail(t, "TickOnce"+what, next, ok)
	cycle, ok := impl.CycleOfLamps(l, s)
	wantFailList(t, "CycleOfLamps"+what, cycle, ok)
	lead, length, ok := impl.LeadOfLamps(l, s)
	wantFail(t, "LeadOfLamps"+what, lead, ok)
	wantFail(t, "LeadOfLamps"+what, length, ok)
	before, ok := impl.StatesBefore(l, s)
	wantFailList(t, "StatesBefore"+what, before, ok)
	for lamp := range min(len(l.Needs)+1, 12) {
		n, ok := impl.FirstTick(l, s, lamp)
		wantFail(t, "FirstTick"+what, n, ok)
	}
	for _, ticks := range []int{-1, 0, 1, 1000, mostTicks} {
		failsForTicks(t, l, s, ticks)
	}
}

func TestTextsThatAreNoStatesOfLamps(t *testing.T) {
	for _, l := range []impl.Lamps{lampsOf("?"), lampsOf("0"), runningLampsOf(2), countingLampsOf(3), lampsThatNeedNothing(4), lampsThatNeedAll(9, '1'), countingLampsOf(10)} {
		lamps := len(l.Needs)
		fine := off(lamps)
		for _, s := range []string{
			"", fine + "0", fine + "1", fine[1:], "2" + fine[1:], fine[1:] + "2", "?" + fine[1:], fine[1:] + "?", fine[1:] + "x", fine[1:] + "/", fine[1:] + "\n",
			fine[1:] + "\x00", "\xff" + fine[1:], " " + fine, fine + "\n", fine[1:] + " ", fine[1:] + "０", off(11), off(20), off(21), off(64), off(64 + lamps),
			strings.Repeat("1", lamps+1), strings.Repeat("1", lamps-1), strings.Repeat("?", lamps), strings.Repeat("a", lamps), off(1 << 16), l.Needs[0] + "?",
		} {
			failsForLampState(t, l, s)
		}
		for place := range lamps {
			for _, sign := range []string{"", "00", "2", "?", "/", ":", "\x00", "\xff"} {
				failsForLampState(t, l, fine[:place]+sign+fine[place+1:])
			}
		}
	}
}

func TestLampsExample(t *testing.T) {
	l, ok := impl.CountingLamps(3)
	text, fine := impl.LampsText(l)
	want(t, "LampsText of CountingLamps 3", text, ok && fine, "???/1??/11?")
	states := []string{"000", "100", "010", "110", "001", "101", "011", "111"}
	for i, s := range states {
		next, ok := impl.TickOnce(l, s)
		want(t, "TickOnce of CountingLamps 3 "+s, next, ok, states[(i+1)%8])
		cycle, ok := impl.CycleOfLamps(l, s)
		wantList(t, "CycleOfLamps of CountingLamps 3 "+s, cycle, ok, states)
		behind, ok := impl.TicksAfter(l, "000", i)
		want(t, fmt.Sprint("TicksAfter of CountingLamps 3 ", i), behind, ok, s)
	}
	wantCycles(t, l, [][]int{{8, 1}})
	times, ok := impl.TimesChanging(l, "000", 8)
	wantList(t, "TimesChanging of CountingLamps 3", times, ok, []int{8, 4, 2})
	before, ok := impl.StatesBefore(l, "000")
	wantList(t, "StatesBefore of CountingLamps 3", before, ok, []string{"111"})
	n, ok := impl.FirstTick(l, "000", 2)
	want(t, "FirstTick of CountingLamps 3", n, ok, 4)
}
