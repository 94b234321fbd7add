package tests

import (
	"fmt"
	"slices"
	"strings"
	"testing"

	"loop.example/g01314/impl"
)

// Promise 11 for chapter 8: every function accepts all arguments without
// panicking and modifies none of them. What fails returns zero values.

func textsForChapter8() []string {
	return append(hostileTexts(), "000", "0000", "0001", strings.Repeat("0", 10), strings.Repeat("1", 10), strings.Repeat("1", 11), "0x", "1\x00", "\xff11",
		"??", "?/", "/", "0/1", "10/10", "??/1?", "???/1??/11?", "?1/1?", "??/??/", "0?/?0", "1?0/10?/?10", strings.Join(countingLampsOf(10).Needs, "/"),
		strings.Join(countingLampsOf(11).Needs, "/"), strings.Repeat("/", 109), strings.Repeat("?", 110), strings.Repeat("?/", 1<<15))
}

func ticksForChapter8() []int {
	return append(hostileNumbers(), -2, 4, 5, 9, 10, 11, 1023, 1024, mostTicks-1, mostTicks, mostTicks+1)
}

func hostileLamps() []impl.Lamps {
	list := []impl.Lamps{lampsOf("?"), lampsOf("0"), lampsOf("1"), runningLampsOf(2), countingLampsOf(3), lampsOfText(heldLamps), lampsThatNeedAll(3, '1'),
		countingLampsOf(10), lampsThatNeedThemselves(10, '0'), {Needs: textsForChapter8()}, {Needs: slices.Repeat([]string{""}, 10)}, {Needs: slices.Repeat([]string{"\xff\xff"}, 2)}}
	for i, l := range noLamps() {
		if i < 90 || i%20 == 0 {
			list = append(list, l)
		}
	}
	return list
}

// untouchedLamps gives a call lamps with room behind their Needs, and checks
// that neither these nor what is behind them is changed.
func untouchedLamps(t *testing.T, what string, l impl.Lamps, call func(impl.Lamps)) {
	t.Helper()
	untouchedKeys(t, what, l.Needs, func(needs []string) { call(impl.Lamps{Needs: needs}) })
}

func noNeedsUnless(t *testing.T, what string) func(impl.Lamps, bool) {
	return func(l impl.Lamps, ok bool) {
		t.Helper()
		if !ok && len(l.Needs) != 0 {
			t.Errorf("fails with %q:%s", l.Needs, what)
		}
	}
}

func TestChapter8AcceptsAllLampsAndChangesNone(t *testing.T) {
	for _, hostile := range hostileLamps() {
		what := lampsName(hostile)
		untouchedLamps(t, "AreLamps"+what, hostile, func(l impl.Lamps) { impl.AreLamps(l) })
		untouchedLamps(t, "IsUndone"+what, hostile, func(l impl.Lamps) { falseUnless(t, what)(impl.IsUndone(l)) })
		untouchedLamps(t, "CyclesOfLamps"+what, hostile, func(l impl.Lamps) { noTurnsUnless(t, what)(impl.CyclesOfLamps(l)) })
		untouchedLamps(t, "StillStates"+what, hostile, func(l impl.Lamps) { noTextsUnless(t, what)(impl.StillStates(l)) })
		untouchedLamps(t, "OtherLamps"+what, hostile, func(l impl.Lamps) { noNeedsUnless(t, what)(impl.OtherLamps(l)) })
		untouchedLamps(t, "LampsText"+what, hostile, func(l impl.Lamps) { blankUnless(t, what)(impl.LampsText(l)) })
		for _, lamp := range ticksForChapter8() {
			untouchedLamps(t, "LampsNeeded"+what, hostile, func(l impl.Lamps) { emptyUnless(t, what)(impl.LampsNeeded(l, lamp)) })
		}
	}
}

func TestChapter8AcceptsAllStatesAndChangesNoLamps(t *testing.T) {
	for _, hostile := range hostileLamps() {
		for _, s := range append(textsForChapter8(), off(len(hostile.Needs))) {
			what := lampsName(hostile) + fmt.Sprintf(" %.30q", s)
			untouchedLamps(t, "TickOnce"+what, hostile, func(l impl.Lamps) { blankUnless(t, what)(impl.TickOnce(l, s)) })
			untouchedLamps(t, "CycleOfLamps"+what, hostile, func(l impl.Lamps) { noTextsUnless(t, what)(impl.CycleOfLamps(l, s)) })
			untouchedLamps(t, "StatesBefore"+what, hostile, func(l impl.Lamps) { noTextsUnless(t, what)(impl.StatesBefore(l, s)) })
			untouchedLamps(t, "LeadOfLamps"+what, hostile, func(l impl.Lamps) {
				lead, length, ok := impl.LeadOfLamps(l, s)
				zeroUnless(t, what)(lead, ok)
				zeroUnless(t, what)(length, ok)
			})
			untouchedLamps(t, "with ticks"+what, hostile, func(l impl.Lamps) {
				for _, n := range ticksForChapter8() {
					blankUnless(t, what)(impl.TicksAfter(l, s, n))
					emptyUnless(t, what)(impl.TimesChanging(l, s, n))
					zeroUnless(t, what)(impl.FirstTick(l, s, n))
				}
			})
		}
	}
}

func TestChapter8AcceptsAllTextsAndNumbers(t *testing.T) {
	for _, s := range slices.Concat(textsForChapter8(), textsForChapter5(), textsForChapter6()) {
		what := fmt.Sprintf(" %.30q", s)
		called(t, "ParseLamps"+what, func() { noNeedsUnless(t, what)(impl.ParseLamps(s)) })
	}
	for _, lamps := range ticksForChapter8() {
		what := fmt.Sprint(" ", lamps)
		called(t, "CountingLamps"+what, func() { noNeedsUnless(t, what)(impl.CountingLamps(lamps)) })
		called(t, "RunningLamps"+what, func() { noNeedsUnless(t, what)(impl.RunningLamps(lamps)) })
	}
}

// newNeedsEachTime checks that what a caller does with the Needs of one result,
// and in the room behind them, changes no other one.
func newNeedsEachTime(t *testing.T, what string, call func() (impl.Lamps, bool)) {
	t.Helper()
	newEachTime(t, what, "x", func() []string {
		l, ok := call()
		if !ok {
			t.Errorf("%s fails", what)
		}
		return roomOf(l.Needs)
	})
}

func TestChapter8ResultsAreNew(t *testing.T) {
	held := lampsOfText(heldLamps)
	free := lampsThatNeedNothing(3)
	newNeedsEachTime(t, "CountingLamps", func() (impl.Lamps, bool) { return impl.CountingLamps(10) })
	newNeedsEachTime(t, "RunningLamps", func() (impl.Lamps, bool) { return impl.RunningLamps(10) })
	newNeedsEachTime(t, "ParseLamps", func() (impl.Lamps, bool) { return impl.ParseLamps(heldLamps) })
	newNeedsEachTime(t, "OtherLamps", func() (impl.Lamps, bool) { return impl.OtherLamps(held) })
	newNeedsEachTime(t, "OtherLamps of lamps that need nothing", func() (impl.Lamps, bool) { return impl.OtherLamps(free) })
	newEachTime(t, "CycleOfLamps", "?", func() []string { l, _ := impl.CycleOfLamps(held, "0111"); return roomOf(l) })
	newEachTime(t, "CycleOfLamps of one state", "?", func() []string { l, _ := impl.CycleOfLamps(held, "0000"); return roomOf(l) })
	newEachTime(t, "StatesBefore", "?", func() []string { l, _ := impl.StatesBefore(held, "0010"); return roomOf(l) })
	newEachTime(t, "StillStates", "?", func() []string { l, _ := impl.StillStates(held); return roomOf(l) })
	newEachTime(t, "LampsNeeded", -9, func() []int { l, _ := impl.LampsNeeded(held, 1); return roomOf(l) })
	newEachTime(t, "TimesChanging", -9, func() []int { l, _ := impl.TimesChanging(held, "0010", 9); return roomOf(l) })
	newEachTime(t, "TimesChanging no ticks", -9, func() []int { l, _ := impl.TimesChanging(held, "0010", 0); return roomOf(l) })
	newTurnsEachTime(t, "CyclesOfLamps", func() ([][]int, bool) { return impl.CyclesOfLamps(lampsOfText(twoHeldLamps)) })
}

// Lamps that are made of others share no room with these, even if they are the same.
func TestOtherLampsShareNothing(t *testing.T) {
	needs := append(make([]string, 0, 9), "??", "??")
	other, ok := impl.OtherLamps(impl.Lamps{Needs: needs})
	wantLamps(t, "OtherLamps", other, ok, lampsOf("??", "??"))
	clear(roomOf(other.Needs))
	wantList(t, "the Needs that were given", needs, true, []string{"??", "??"})
	if slices.ContainsFunc(roomOf(needs)[2:], func(s string) bool { return s != "" }) {
		t.Error("the room behind the Needs is written")
	}
}

// No state is kept: what a call returns does not depend on the calls before it.
func TestChapter8KeepsNothing(t *testing.T) {
	held := lampsOfText(twoHeldLamps)
	before, _ := impl.CycleOfLamps(held, "10110")
	cycles, _ := impl.CyclesOfLamps(held)
	for _, l := range fewLamps() {
		s := off(len(l.Needs))
		impl.CyclesOfLamps(l)
		impl.CycleOfLamps(l, s)
		impl.TicksAfter(l, s, mostTicks)
	}
	after, ok := impl.CycleOfLamps(held, "10110")
	wantList(t, "CycleOfLamps again", after, ok, before)
	wantCycles(t, held, cycles)
}
