package tests

import (
	"cmp"
	"slices"

	"loop.example/g01314/impl"
)

// The rules of chapter 4 on texts: what is told of few states is compared with
// lists of all fewest slides, what is told of many with a search forward that
// keeps the first list of each state.

// digitTexts returns all texts of digits less than the counts, in order.
func digitTexts(counts []int) []string {
	list := []string{""}
	for _, count := range counts {
		var longer []string
		for _, s := range list {
			for place := range count {
				longer = append(longer, s+string(rune('0'+place)))
			}
		}
		list = longer
	}
	return list
}

func ruleAllowed(b impl.Bolts, s string) bool {
	for _, block := range b.Blocks {
		if int(s[block.A]-'0') == block.I && int(s[block.B]-'0') == block.J {
			return false
		}
	}
	return true
}

func ruleAllowedStates(b impl.Bolts) []string {
	var states []string
	for _, s := range digitTexts(b.Places) {
		if ruleAllowed(b, s) {
			states = append(states, s)
		}
	}
	return states
}

// ruleSlid returns the text behind a slide, which need not be a state.
func ruleSlid(s string, m impl.Slide) string {
	t := []byte(s)
	t[m.Bolt] = byte(int(t[m.Bolt]) + m.By)
	return string(t)
}

// ruleSlides returns all slides from an allowed state, in order.
func ruleSlides(b impl.Bolts, s string) []impl.Slide {
	allowed := ruleAllowedStates(b)
	return slidesAmong(allowed, s)
}

// slidesAmong returns the slides from a state to the allowed ones, which are in order.
func slidesAmong(allowed []string, s string) []impl.Slide {
	var slides []impl.Slide
	for bolt := range s {
		for _, by := range []int{1, -1} {
			m := impl.Slide{Bolt: bolt, By: by}
			if _, found := slices.BinarySearch(allowed, ruleSlid(s, m)); found {
				slides = append(slides, m)
			}
		}
	}
	return slides
}

func compareSlides(a, b impl.Slide) int {
	return cmp.Or(cmp.Compare(a.Bolt, b.Bolt), cmp.Compare(b.By, a.By))
}

// slideLists maps each state of a part to all lists of fewest slides from start to it, in order.
func slideLists(b impl.Bolts, start string) map[string][][]impl.Slide {
	allowed := ruleAllowedStates(b)
	return listsFrom(start, func(s string) []impl.Slide { return slidesAmong(allowed, s) }, ruleSlid, compareSlides)
}

type slidWays = foundWays[impl.Slide]

// slideWays maps each state of a part to its ways from start.
func slideWays(b impl.Bolts, start string) map[string]slidWays {
	allowed := ruleAllowedStates(b)
	return waysFrom(start, func(s string) []impl.Slide { return slidesAmong(allowed, s) }, ruleSlid)
}

// rulePartOf maps each allowed state to the first state of its part.
func rulePartOf(b impl.Bolts) map[string]string {
	part := map[string]string{}
	for _, s := range ruleAllowedStates(b) {
		if _, seen := part[s]; seen {
			continue
		}
		for reached := range slideWays(b, s) {
			part[reached] = s
		}
	}
	return part
}

// ruleNeedless returns the indices of the blocks without which the same states are allowed.
func ruleNeedless(b impl.Bolts) []int {
	allowed := ruleAllowedStates(b)
	var needless []int
	for k := range b.Blocks {
		without := impl.Bolts{Places: b.Places, Blocks: slices.Delete(slices.Clone(b.Blocks), k, k+1)}
		if slices.Equal(ruleAllowedStates(without), allowed) {
			needless = append(needless, k)
		}
	}
	return needless
}
