package tests

import (
	"fmt"
	"math"
	"reflect"
	"slices"
	"strings"
	"testing"

	"loop.example/g01314/impl"
)

// Promise 11 for chapter 4: every function accepts all arguments without
// panicking and modifies none of them. What fails returns zero values.

func textsForChapter4() []string {
	return append(hostileTexts(), "22", "20", "12", "000", "0000", "00000", "000000", "0000000", "010101", "0/", ":0", "33;0111", "222;0121",
		"22;0010;0011;0110;0111", "33;", ";", ";;;", "33;01", "33;9999", "99;0111", strings.Repeat("2;", 1<<15), "22"+strings.Repeat(";0011", 40))
}

func hostileBolts() []impl.Bolts {
	list := []impl.Bolts{
		{}, {Places: []int{}, Blocks: []impl.Block{}}, {Blocks: []impl.Block{{A: 0, I: 0, B: 1, J: 0}}},
		{Places: []int{3, 3}, Blocks: make([]impl.Block, 41)}, {Places: []int{3, 3}, Blocks: make([]impl.Block, 1<<16)},
		{Places: slices.Repeat([]int{2}, 1<<16), Blocks: []impl.Block{{A: 1 << 15, I: 0, B: 1, J: 0}}},
	}
	for _, s := range []string{"2", "5", "33;0111", "222;0121", "22;0010;0011;0110;0111", "22;0011;0110", "222222;0151", "555222", windingBolts} {
		list = append(list, boltsOfText(s))
	}
	for _, block := range noBlocks() {
		list = append(list, impl.Bolts{Places: []int{2, 3, 5}, Blocks: []impl.Block{block}})
	}
	for _, counts := range noPlaces() {
		list = append(list, impl.Bolts{Places: counts, Blocks: []impl.Block{{A: 1, I: 1, B: 0, J: 0}}})
	}
	return list
}

func hostileSlides() []impl.Slide {
	var list []impl.Slide
	for _, bolt := range []int{math.MinInt, -1, 0, 1, 2, 5, 6, 1 << 15, math.MaxInt} {
		for _, by := range []int{math.MinInt, math.MinInt + 1, -2, -1, 0, 1, 2, math.MaxInt} {
			list = append(list, impl.Slide{Bolt: bolt, By: by})
		}
	}
	return list
}

// untouchedBolts gives a call bolts with room behind both slices, and checks
// that neither what is in them nor what is behind them is changed.
func untouchedBolts(t *testing.T, what string, b impl.Bolts, call func(impl.Bolts)) {
	t.Helper()
	places := slices.Concat(b.Places, []int{-7, -77, -777})
	blocks := slices.Concat(b.Blocks, []impl.Block{{A: -7}, {I: -77}, {B: -777}})
	placesBefore, blocksBefore := slices.Clone(places), slices.Clone(blocks)
	called(t, what, func() { call(impl.Bolts{Places: places[:len(b.Places)], Blocks: blocks[:len(b.Blocks)]}) })
	if !slices.Equal(places, placesBefore) || !slices.Equal(blocks, blocksBefore) {
		t.Errorf("%s changes the bolts given to it", what)
	}
}

func zeroBoltsUnless(t *testing.T, what string) func(impl.Bolts, bool) {
	return func(b impl.Bolts, ok bool) {
		t.Helper()
		if !ok && !reflect.DeepEqual(b, impl.Bolts{}) {
			t.Errorf("fails with %v:%s", b, what)
		}
	}
}

func noSlidesUnless(t *testing.T, what string) func([]impl.Slide, bool) {
	return func(list []impl.Slide, ok bool) {
		t.Helper()
		if !ok && len(list) != 0 {
			t.Errorf("fails with %v:%s", list, what)
		}
	}
}

func TestChapter4AcceptsAllBoltsAndChangesNone(t *testing.T) {
	for _, hostile := range hostileBolts() {
		what := nameOf(hostile)
		untouchedBolts(t, "AreBolts"+what, hostile, func(b impl.Bolts) { impl.AreBolts(b) })
		untouchedBolts(t, "AllowedStates"+what, hostile, func(b impl.Bolts) {
			if states, ok := impl.AllowedStates(b); !ok && len(states) != 0 {
				t.Errorf("AllowedStates%s: %v", what, states)
			}
		})
		untouchedBolts(t, "CountAllowed"+what, hostile, func(b impl.Bolts) { zeroUnless(t, what)(impl.CountAllowed(b)) })
		untouchedBolts(t, "PartsOfBolts"+what, hostile, func(b impl.Bolts) { zeroUnless(t, what)(impl.PartsOfBolts(b)) })
		untouchedBolts(t, "NeedlessBlocks"+what, hostile, func(b impl.Bolts) { emptyUnless(t, what)(impl.NeedlessBlocks(b)) })
		untouchedBolts(t, "BoltsText"+what, hostile, func(b impl.Bolts) { blankUnless(t, what)(impl.BoltsText(b)) })
		for _, block := range append(noBlocks(), impl.Block{A: 0, I: 0, B: 1, J: 0}, impl.Block{A: 1, I: 1, B: 0, J: 1}) {
			untouchedBolts(t, "AddBlock"+what, hostile, func(b impl.Bolts) { zeroBoltsUnless(t, what)(impl.AddBlock(b, block)) })
		}
		for _, k := range hostileNumbers() {
			untouchedBolts(t, "DropBlock"+what, hostile, func(b impl.Bolts) { zeroBoltsUnless(t, what)(impl.DropBlock(b, k)) })
		}
	}
}

func TestChapter4AcceptsAllStatesAndChangesNoBolts(t *testing.T) {
	for _, hostile := range hostileBolts() {
		for _, s := range append(textsForChapter4(), strings.Repeat("0", len(hostile.Places))) {
			what := nameOf(hostile) + fmt.Sprintf(" %.30q", s)
			untouchedBolts(t, "with a state"+what, hostile, func(b impl.Bolts) {
				if fine, ok := impl.IsAllowed(b, s); !ok && fine {
					t.Errorf("IsAllowed%s: true, false", what)
				}
				noSlidesUnless(t, what)(impl.SlidesOf(b, s))
				zeroUnless(t, what)(impl.CountSlid(b, s))
				far, n, ok := impl.FarthestSlid(b, s)
				blankUnless(t, what)(far, ok)
				zeroUnless(t, what)(n, ok)
				for _, m := range hostileSlides() {
					blankUnless(t, what)(impl.SlideBolt(b, s, m))
				}
			})
		}
	}
}

func TestChapter4AcceptsAllTwoStatesAndChangesNoBolts(t *testing.T) {
	for _, hostile := range hostileBolts() {
		texts := append(textsForChapter4(), strings.Repeat("0", len(hostile.Places)), strings.Repeat("1", len(hostile.Places)))
		for _, from := range texts {
			what := nameOf(hostile) + fmt.Sprintf(" %.30q", from)
			untouchedBolts(t, "with two states"+what, hostile, func(b impl.Bolts) {
				for _, to := range texts {
					zeroUnless(t, what)(impl.FewestSlides(b, from, to))
					noSlidesUnless(t, what)(impl.FirstSlides(b, from, to))
					zeroUnless(t, what)(impl.CountSlideWays(b, from, to))
				}
			})
		}
	}
}

func TestChapter4AcceptsAllTextsAndNumbers(t *testing.T) {
	for _, s := range textsForChapter4() {
		what := fmt.Sprintf(" %.30q", s)
		called(t, "ParseBolts"+what, func() { zeroBoltsUnless(t, what)(impl.ParseBolts(s)) })
	}
	for _, n := range append(hostileNumbers(), 4, 5, 6, 9) {
		what := fmt.Sprint(" ", n)
		called(t, "BarBolts"+what, func() { zeroBoltsUnless(t, what)(impl.BarBolts(n)) })
	}
}

func TestChapter4ResultsAreNew(t *testing.T) {
	b := boltsOfText("33;0111;0010;0011")
	newEachTime(t, "AllowedStates", "?", func() []string { l, _ := impl.AllowedStates(b); return l })
	newEachTime(t, "NeedlessBlocks", -9, func() []int { l, _ := impl.NeedlessBlocks(boltsOfText("33;0111;0111")); return l })
	newEachTime(t, "SlidesOf", impl.Slide{Bolt: -9}, func() []impl.Slide { l, _ := impl.SlidesOf(b, "12"); return l })
	newEachTime(t, "FirstSlides", impl.Slide{Bolt: -9}, func() []impl.Slide { l, _ := impl.FirstSlides(b, "10", "22"); return l })
	newBoltsEachTime(t, "AddBlock", func() impl.Bolts { c, _ := impl.AddBlock(b, impl.Block{A: 0, I: 0, B: 1, J: 2}); return c })
	newBoltsEachTime(t, "DropBlock 0", func() impl.Bolts { c, _ := impl.DropBlock(b, 0); return c })
	newBoltsEachTime(t, "DropBlock 2", func() impl.Bolts { c, _ := impl.DropBlock(b, 2); return c })
	newBoltsEachTime(t, "BarBolts", func() impl.Bolts { c, _ := impl.BarBolts(3); return c })
	newBoltsEachTime(t, "ParseBolts", func() impl.Bolts { c, _ := impl.ParseBolts("33;0111"); return c })
}

// newBoltsEachTime checks that what a caller does with the places and the
// blocks of one result, and in the room behind them, changes no other one.
func newBoltsEachTime(t *testing.T, what string, call func() impl.Bolts) {
	t.Helper()
	newEachTime(t, what, -9, func() []int { return roomOf(call().Places) })
	newEachTime(t, what, impl.Block{A: -9}, func() []impl.Block { return roomOf(call().Blocks) })
}

func roomOf[T any](list []T) []T {
	return list[:cap(list)]
}

// Bolts whose slices have room behind them share none of it with what is made of them.
func TestAddAndDropBlocksShareNothing(t *testing.T) {
	blocks := append(make([]impl.Block, 0, 9), boltsOfText("33;0111;0010;0011").Blocks...)
	b := impl.Bolts{Places: append(make([]int, 0, 9), 3, 3), Blocks: blocks}
	added, ok := impl.AddBlock(b, impl.Block{A: 0, I: 0, B: 1, J: 2})
	wantBolts(t, "AddBlock", added, ok, boltsOfText("33;0111;0010;0011;0012"))
	for k, left := range []string{"33;0010;0011", "33;0111;0011", "33;0111;0010"} {
		dropped, ok := impl.DropBlock(b, k)
		wantBolts(t, fmt.Sprint("DropBlock ", k), dropped, ok, boltsOfText(left))
		clear(roomOf(dropped.Places))
		clear(roomOf(dropped.Blocks))
	}
	clear(roomOf(added.Places))
	clear(roomOf(added.Blocks))
	wantBolts(t, "the bolts that were given", b, true, boltsOfText("33;0111;0010;0011"))
	if slices.ContainsFunc(roomOf(blocks)[3:], func(block impl.Block) bool { return block != impl.Block{} }) {
		t.Error("the room behind the blocks is written")
	}
}
