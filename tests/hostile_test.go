package tests

import (
	"math"
	"slices"
	"strings"
	"testing"
)

// Arguments of all sorts, most of them invalid.

func hostileTexts() []string {
	return []string{
		"", "0", "1", "00", "11", "01", "111", "0110", "2", "x", "?", "a", "t", "u", "acaba", " ", "\n", "\x00", "\xff\xfe", "1\xff",
		"０１", "0,1", "-", strings.Repeat("0", 20), strings.Repeat("1", 20), strings.Repeat("0", 19) + "1",
		strings.Repeat("1", 21), strings.Repeat("0", 64), strings.Repeat("a", 2000), strings.Repeat("a", 2001),
		strings.Repeat("1", 1<<16), strings.Repeat("\xff", 1<<16),
	}
}

func hostileNumbers() []int {
	return []int{
		math.MinInt, math.MinInt + 1, math.MinInt32, -1000, -64, -1, 0, 1, 2, 3, 7, 8, 19, 20, 21, 31, 32, 63, 64, 65,
		1999, 2000, 2001, 1<<20 - 1, 1 << 20, math.MaxInt32, 1 << 62, math.MaxInt - 1, math.MaxInt,
	}
}

func hostileLists() [][]int {
	mixed := make([]int, 2000)
	for i := range mixed {
		mixed[i] = i%23 - 1
	}
	return [][]int{
		nil, {}, {0}, {-1}, {20}, {0, 1, 0, 2}, {0, 2, 0, 1, 0}, {math.MinInt, math.MaxInt}, {0, math.MinInt}, {19, 18, 17},
		mixed, make([]int, 2000), make([]int, 2001), make([]int, 1<<16), hostileNumbers(),
	}
}

// called tells of a panic in a call, in place of ending the tests with it.
func called(t *testing.T, what string, call func()) {
	t.Helper()
	defer func() {
		if r := recover(); r != nil {
			t.Errorf("%s panics: %v", what, r)
		}
	}()
	call()
}

// untouched gives a call a list with room behind it, and checks that neither
// the list nor what is behind it is changed.
func untouched(t *testing.T, what string, list []int, call func([]int)) {
	t.Helper()
	room := slices.Concat(list, []int{-7, -77, -777, -7777})
	before := slices.Clone(room)
	called(t, what, func() { call(room[:len(list)]) })
	if !slices.Equal(room, before) {
		t.Errorf("%s changes the list given to it", what)
	}
}

// newEachTime checks that what a caller does with one result changes no other one.
func newEachTime[T comparable](t *testing.T, what string, other T, call func() []T) {
	t.Helper()
	first := call()
	before := slices.Clone(first)
	for i := range first {
		first[i] = other
	}
	if again := call(); len(before) == 0 || !slices.Equal(again, before) {
		t.Errorf("%s: first %v, then %v", what, before, again)
	}
}

func zeroUnless(t *testing.T, what string) func(int, bool) {
	return func(n int, ok bool) {
		t.Helper()
		if !ok && n != 0 {
			t.Errorf("fails with %d:%s", n, what)
		}
	}
}

func blankUnless(t *testing.T, what string) func(string, bool) {
	return func(s string, ok bool) {
		t.Helper()
		if !ok && s != "" {
			t.Errorf("fails with %q:%s", s, what)
		}
	}
}

func emptyUnless(t *testing.T, what string) func([]int, bool) {
	return func(l []int, ok bool) {
		t.Helper()
		if !ok && len(l) != 0 {
			t.Errorf("fails with %v:%s", l, what)
		}
	}
}
