package tests

import (
	"fmt"
	"slices"
	"strings"
	"testing"

	"loop.example/g01314/impl"
)

// Promise 11 for chapter 10: every function accepts all arguments without
// panicking and modifies none of them. What fails returns zero values.

// textsForChapter10 are lines and scripts, most of which are none.
func textsForChapter10() []string {
	list := slices.Concat(hostileTexts(), ordinaryLines(), linesWithState, []string{
		"\n\n", " ", "  ", "\r\n", "show\n", "show\nshow", "\nshow", "show\r\n", "show\x00\n", "show ", "play ", "play  ", "bar", "bar ", "keys ", "keys /", "walks", "walks  ", "walks 111", "walks 111 ",
		"bar 0", "bar 11", "bar -9223372036854775808", "bar 9223372036854775808", "nth 999999", "nth 1000000", "turn 999999", "turn -1", "walks 111 41", "walks 000 999999", "walks 0 0",
		"play " + strings.Repeat("a", 2000), "play " + strings.Repeat("a", 2001), "play " + strings.Repeat("t", 2000), "play \xff", "set " + off(20), "set \xff\xff\xff", "far ？", "keys ???/???/??\xff",
		"keys " + strings.Join(freeKeysOf(10), "/"), "keys " + strings.Repeat("?/", 1<<10), "bar 10\nlong\nparts\nfit\n", "keys ?11/1?1/11?\nset 000\nfit\nkey 111\nturn 0\n",
	})
	for _, size := range []int{49, 50, 51, 2999, 3000, 3001, 1 << 16} {
		list = append(list, strings.Repeat("\n", size), strings.Repeat(" ", size), strings.Repeat("x", size-1)+"\n", strings.Repeat("x", size))
	}
	return list
}

func hostileDesks() []impl.Desk {
	list := []impl.Desk{
		impl.FirstDesk(), deskOf("00 ?1/1?"), deskOf("0 ?"), barDesk(10), {State: off(10), Keys: lockedKeys(10)}, {State: off(4), Keys: freeKeysOf(4)},
		{State: "\xff\xff", Keys: []string{"\xff\xff", "\xff\xff"}}, {State: "111", Keys: textsForChapter5()}, {State: strings.Repeat("1", 1<<16), Keys: slices.Repeat([]string{""}, 1<<16)},
	}
	for i, d := range noDesks() {
		if i < 40 || i%10 == 0 {
			list = append(list, d)
		}
	}
	return list
}

// untouchedDesk gives a call a desk with room behind its Keys, and checks that
// neither these nor what is behind them is changed.
func untouchedDesk(t *testing.T, what string, d impl.Desk, call func(impl.Desk)) {
	t.Helper()
	untouchedKeys(t, what, d.Keys, func(keys []string) { call(impl.Desk{State: d.State, Keys: keys}) })
}

func noDeskUnless(t *testing.T, what string) func(impl.Desk, bool) {
	return func(d impl.Desk, ok bool) {
		t.Helper()
		if !ok && (d.State != "" || len(d.Keys) != 0) {
			t.Errorf("fails with%s:%s", deskName(d), what)
		}
	}
}

func TestChapter10AcceptsAllDesksAndLinesAndChangesNone(t *testing.T) {
	lines := textsForChapter10()
	for _, hostile := range hostileDesks() {
		untouchedDesk(t, "IsDesk"+deskName(hostile), hostile, func(d impl.Desk) { impl.IsDesk(d) })
		for _, line := range lines {
			what := deskName(hostile) + fmt.Sprintf(" %.30q", line)
			untouchedDesk(t, "DeskLine"+what, hostile, func(d impl.Desk) {
				after, reply, ok := impl.DeskLine(d, line)
				noDeskUnless(t, what)(after, ok)
				blankUnless(t, what)(reply, ok)
				if ok != (impl.IsDesk(d) && len(line) <= 3000 && !strings.Contains(line, "\n")) || ok && !impl.IsDesk(after) {
					t.Errorf("DeskLine%s is %v, with%s behind it", what, ok, deskName(after))
				}
			})
		}
	}
}

func TestChapter10AcceptsAllScripts(t *testing.T) {
	for _, text := range textsForChapter10() {
		for _, s := range []string{text, text + "\n", "bar 10\n" + text + "\n"} {
			what := fmt.Sprintf(" %.30q", s)
			called(t, "RunScript"+what, func() { noTextsUnless(t, what)(impl.RunScript(s)) })
			called(t, "DeskAfter"+what, func() { noDeskUnless(t, what)(impl.DeskAfter(s)) })
			called(t, "FailedLines"+what, func() { emptyUnless(t, what)(impl.FailedLines(s)) })
		}
	}
}

// newDeskEachTime checks that what a caller does with the Keys of one result,
// and in the room behind them, changes no other one.
func newDeskEachTime(t *testing.T, what string, call func() impl.Desk) {
	t.Helper()
	newEachTime(t, what, "x", func() []string { return roomOf(call().Keys) })
}

func TestChapter10ResultsAreNew(t *testing.T) {
	script := "keys ?11/1?1/11?\nturn 0\nfly\nshow\nturn 1\nturn 1\n"
	newDeskEachTime(t, "FirstDesk", impl.FirstDesk)
	newDeskEachTime(t, "DeskAfter", func() impl.Desk { d, _ := impl.DeskAfter(script); return d })
	newDeskEachTime(t, "DeskAfter no lines", func() impl.Desk { d, _ := impl.DeskAfter(""); return d })
	newEachTime(t, "RunScript", "x", func() []string { l, _ := impl.RunScript(script); return roomOf(l) })
	newEachTime(t, "FailedLines", -9, func() []int { l, _ := impl.FailedLines(script); return roomOf(l) })
	for _, line := range append(ordinaryLines(), "fly", "bar 0", "play c", "") {
		newDeskEachTime(t, "DeskLine "+line, func() impl.Desk { d, _, _ := impl.DeskLine(impl.FirstDesk(), line); return d })
	}
}

// The desk behind a line shares no room with the one before it, also if it is
// the same, and what lies behind the keys that are given is none of them.
func TestDesksBehindLinesShareNothing(t *testing.T) {
	for _, line := range append(ordinaryLines(), "fly", "bar 0", "bar 11", "play c", "turn 2", "set 111", "keys ???/1??/01?", "") {
		given := deskOf(firstDesk)
		room := append(make([]string, 0, 9), given.Keys...)
		for i := range roomOf(room)[len(room):] {
			roomOf(room)[len(room)+i] = "behind"
		}
		d := impl.Desk{State: given.State, Keys: room}
		first, reply, ok := impl.DeskLine(d, line)
		wanted := impl.Desk{State: first.State, Keys: slices.Clone(first.Keys)}
		want(t, "IsDesk "+line, impl.IsDesk(wanted), ok, true)
		if slices.Contains(roomOf(first.Keys), "behind") {
			t.Errorf("the room behind the keys is handed out by %q", line)
		}
		for i := range roomOf(first.Keys) {
			roomOf(first.Keys)[i] = "x"
		}
		wantDesk(t, "the desk before "+line, d, true, given)
		if slices.ContainsFunc(roomOf(room)[len(room):], func(s string) bool { return s != "behind" }) {
			t.Errorf("the room behind the keys is written by %q", line)
		}
		wantLine(t, d, line, reply, wanted)
	}
}

// No state is kept: what a call returns does not depend on the calls before it.
func TestChapter10KeepsNothing(t *testing.T) {
	rules := newConsole()
	lines := []string{"number", "turn 0", "keys ???/???/???", "turn 2", "fly", "parts", "rule"}
	all := rules.executeAll(lines)
	for _, other := range []string{"bar 10", "set 000", "keys ?11/1?1/11?", "play acaba", "turn 2", "fly", "nth 7"} {
		wantScript(t, []string{other}, rules.executeAll([]string{other}))
		wantScript(t, lines, all)
		wantDesk(t, "FirstDesk behind "+other, impl.FirstDesk(), true, deskOf(firstDesk))
	}
}
