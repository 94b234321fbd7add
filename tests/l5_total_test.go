package tests

import (
	"fmt"
	"slices"
	"strings"
	"testing"

	"loop.example/g01314/impl"
)

// Promise 11 for chapter 5: every function accepts all arguments without
// panicking and modifies none of them. What fails returns zero values.

func textsForChapter5() []string {
	return append(hostileTexts(), "000", "0000", strings.Repeat("0", 10), strings.Repeat("1", 10), strings.Repeat("1", 11), "0x", "1\x00", "\xff11",
		"??", "?/", "/", "??/1?", "???/1??/01?", "?1/1?", "??/??/", "0?/?0", strings.Join(freeKeysOf(10), "/"), strings.Join(freeKeysOf(11), "/"),
		strings.Repeat("/", 109), strings.Repeat("?", 110), strings.Repeat("?/", 1<<15))
}

func hostileKeys() [][]string {
	return append(noKeys(), freeKeysOf(1), barKeysOf(2), barKeysOf(3), keysOfText("?1/1?"), lockedKeys(4), freeKeysOf(4), barKeysOf(10), lockedKeys(10),
		textsForChapter5(), slices.Repeat([]string{""}, 10), slices.Repeat([]string{"\xff\xff"}, 2))
}

// untouchedKeys gives a call keys with room behind them, and checks that
// neither the keys nor what is behind them is changed.
func untouchedKeys(t *testing.T, what string, keys []string, call func([]string)) {
	t.Helper()
	room := slices.Concat(keys, []string{"behind", "??", "?"})
	before := slices.Clone(room)
	called(t, what, func() { call(room[:len(keys)]) })
	if !slices.Equal(room, before) {
		t.Errorf("%s changes the keys given to it", what)
	}
}

func falseUnless(t *testing.T, what string) func(bool, bool) {
	return func(b, ok bool) {
		t.Helper()
		if b && !ok {
			t.Errorf("fails with true:%s", what)
		}
	}
}

func noTextsUnless(t *testing.T, what string) func([]string, bool) {
	return func(list []string, ok bool) {
		t.Helper()
		if !ok && len(list) != 0 {
			t.Errorf("fails with %q:%s", list, what)
		}
	}
}

func TestChapter5AcceptsAllKeysAndChangesNone(t *testing.T) {
	for _, hostile := range hostileKeys() {
		what := keysName(hostile)
		untouchedKeys(t, "AreKeys"+what, hostile, func(keys []string) { impl.AreKeys(keys) })
		untouchedKeys(t, "PartsByKeys"+what, hostile, func(keys []string) { zeroUnless(t, what)(impl.PartsByKeys(keys)) })
		untouchedKeys(t, "LongestByKeys"+what, hostile, func(keys []string) { zeroUnless(t, what)(impl.LongestByKeys(keys)) })
		untouchedKeys(t, "LinksByKeys"+what, hostile, func(keys []string) { zeroUnless(t, what)(impl.LinksByKeys(keys)) })
		untouchedKeys(t, "IsLineOfStates"+what, hostile, func(keys []string) { falseUnless(t, what)(impl.IsLineOfStates(keys)) })
		untouchedKeys(t, "TurnKeys"+what, hostile, func(keys []string) { noTextsUnless(t, what)(impl.TurnKeys(keys)) })
		untouchedKeys(t, "KeysText"+what, hostile, func(keys []string) { blankUnless(t, what)(impl.KeysText(keys)) })
	}
}

func TestChapter5AcceptsAllStatesAndChangesNoKeys(t *testing.T) {
	for _, hostile := range hostileKeys() {
		for _, s := range append(textsForChapter5(), off(len(hostile))) {
			what := keysName(hostile) + fmt.Sprintf(" %.30q", s)
			untouchedKeys(t, "with a state"+what, hostile, func(keys []string) {
				emptyUnless(t, what)(impl.KeyedMoves(keys, s))
				zeroUnless(t, what)(impl.CountReachedBy(keys, s))
				far, n, ok := impl.FarthestByKeys(keys, s)
				blankUnless(t, what)(far, ok)
				zeroUnless(t, what)(n, ok)
				for _, k := range append(hostileNumbers(), 9, 10, 11) {
					falseUnless(t, what)(impl.FitsKey(keys, s, k))
					blankUnless(t, what)(impl.MoveKeyed(keys, s, k))
				}
			})
		}
	}
}

func TestChapter5AcceptsAllTwoStatesAndChangesNoKeys(t *testing.T) {
	for _, hostile := range hostileKeys() {
		texts := append(textsForChapter5(), off(len(hostile)), strings.Repeat("1", len(hostile)))
		for _, a := range texts {
			what := keysName(hostile) + fmt.Sprintf(" %.30q", a)
			untouchedKeys(t, "with two states"+what, hostile, func(keys []string) {
				for _, b := range texts {
					zeroUnless(t, what)(impl.FewestKeyed(keys, a, b))
					emptyUnless(t, what)(impl.FirstKeyed(keys, a, b))
					zeroUnless(t, what)(impl.CountKeyedWays(keys, a, b))
				}
			})
		}
	}
}

func TestChapter5AcceptsAllTextsAndNumbers(t *testing.T) {
	for _, s := range textsForChapter5() {
		what := fmt.Sprintf(" %.30q", s)
		called(t, "ParseKeys"+what, func() { noTextsUnless(t, what)(impl.ParseKeys(s)) })
	}
	for _, n := range append(hostileNumbers(), -2, 4, 5, 6, 9, 10, 11, 12) {
		what := fmt.Sprint(" ", n)
		called(t, "BarKeys"+what, func() { noTextsUnless(t, what)(impl.BarKeys(n)) })
		called(t, "FreeKeys"+what, func() { noTextsUnless(t, what)(impl.FreeKeys(n)) })
	}
}

func TestChapter5ResultsAreNew(t *testing.T) {
	crossed := keysOfText("?1/1?")
	newEachTime(t, "BarKeys", "x", func() []string { keys, _ := impl.BarKeys(10); return keys })
	newEachTime(t, "FreeKeys", "x", func() []string { keys, _ := impl.FreeKeys(10); return keys })
	newEachTime(t, "ParseKeys", "x", func() []string { keys, _ := impl.ParseKeys("??/1?"); return keys })
	newEachTime(t, "TurnKeys", "x", func() []string { keys, _ := impl.TurnKeys(crossed); return keys })
	newEachTime(t, "KeyedMoves", -9, func() []int { moves, _ := impl.KeyedMoves(crossed, "11"); return moves })
	newEachTime(t, "FirstKeyed", -9, func() []int { way, _ := impl.FirstKeyed(crossed, "01", "10"); return way })
}

// Keys that are made of others share no room with these, even if they are the same.
func TestTurnedKeysShareNothing(t *testing.T) {
	room := append(make([]string, 0, 9), "?1", "1?")
	turned, ok := impl.TurnKeys(room)
	wantList(t, "TurnKeys", turned, ok, []string{"?1", "1?"})
	clear(roomOf(turned))
	wantList(t, "the keys that were given", room, true, []string{"?1", "1?"})
	if slices.ContainsFunc(roomOf(room)[2:], func(s string) bool { return s != "" }) {
		t.Error("the room behind the keys is written")
	}
}
