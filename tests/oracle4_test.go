package tests

import (
	"cmp"
	"math/big"
	"slices"

	"loop.example/g01314/impl"
)

// The rules of chapter 4 on texts: what is told of few states is compared with
// lists of all fewest slides, what is told of many with a search forward that
// keeps the first list of each state.

// digitTexts returns all texts of digits less than the counts, in order.
func digitTexts(counts []int) []string {
	list := []string{""}
	for _, count := range counts {
		var longer []string
		for _, s := range list {
			for place := range count {
				longer = append(longer, s+string(rune('0'+place)))
			}
		}
		list = longer
	}
	return list
}

func ruleAllowed(b impl.Bolts, s string) bool {
	for _, block := range b.Blocks {
		if int(s[block.A]-'0') == block.I && int(s[block.B]-'0') == block.J {
			return false
		}
	}
	return true
}

func ruleAllowedStates(b impl.Bolts) []string {
	var states []string
	for _, s := range digitTexts(b.Places) {
		if ruleAllowed(b, s) {
			states = append(states, s)
		}
	}
	return states
}

// ruleSlid returns the text behind a slide, which need not be a state.
func ruleSlid(s string, m impl.Slide) string {
	t := []byte(s)
	t[m.Bolt] = byte(int(t[m.Bolt]) + m.By)
	return string(t)
}

// ruleSlides returns all slides from an allowed state, in order.
func ruleSlides(b impl.Bolts, s string) []impl.Slide {
	allowed := ruleAllowedStates(b)
	return slidesAmong(allowed, s)
}

// slidesAmong returns the slides from a state to the allowed ones, which are in order.
func slidesAmong(allowed []string, s string) []impl.Slide {
	var slides []impl.Slide
	for bolt := range s {
		for _, by := range []int{1, -1} {
			m := impl.Slide{Bolt: bolt, By: by}
			if _, found := slices.BinarySearch(allowed, ruleSlid(s, m)); found {
				slides = append(slides, m)
			}
		}
	}
	return slides
}

func compareSlides(a, b impl.Slide) int {
	return cmp.Or(cmp.Compare(a.Bolt, b.Bolt), cmp.Compare(b.By, a.By))
}

// slideLists maps each state of a part to all lists of fewest slides from start to it, in order.
func slideLists(b impl.Bolts, start string) map[string][][]impl.Slide {
	allowed := ruleAllowedStates(b)
	lists := map[string][][]impl.Slide{start: {nil}}
	for level := []string{start}; len(level) > 0; {
		reached := map[string][][]impl.Slide{}
		for _, s := range level {
			for _, m := range slidesAmong(allowed, s) {
				next := ruleSlid(s, m)
				if _, seen := lists[next]; seen {
					continue
				}
				for _, way := range lists[s] {
					reached[next] = append(reached[next], append(slices.Clone(way), m))
				}
			}
		}
		level = nil
		for s, ways := range reached {
			slices.SortFunc(ways, func(a, b []impl.Slide) int { return slices.CompareFunc(a, b, compareSlides) })
			lists[s] = ways
			level = append(level, s)
		}
	}
	return lists
}

// slidWays tells of one state the first list of fewest slides to it, and how many such lists there are.
type slidWays struct {
	first []impl.Slide
	count *big.Int
}

// slideWays maps each state of a part to its ways from start. States come in
// the order of their first lists, so that the first list found is the first one.
func slideWays(b impl.Bolts, start string) map[string]slidWays {
	allowed := ruleAllowedStates(b)
	ways := map[string]slidWays{start: {count: big.NewInt(1)}}
	queue := []string{start}
	for len(queue) > 0 {
		s := queue[0]
		queue = queue[1:]
		for _, m := range slidesAmong(allowed, s) {
			next := ruleSlid(s, m)
			if _, seen := ways[next]; !seen {
				ways[next] = slidWays{first: append(slices.Clone(ways[s].first), m), count: big.NewInt(0)}
				queue = append(queue, next)
			}
			if len(ways[next].first) == len(ways[s].first)+1 {
				ways[next].count.Add(ways[next].count, ways[s].count)
			}
		}
	}
	return ways
}

// rulePartOf maps each allowed state to the first state of its part.
func rulePartOf(b impl.Bolts) map[string]string {
	part := map[string]string{}
	for _, s := range ruleAllowedStates(b) {
		if _, seen := part[s]; seen {
			continue
		}
		for reached := range slideWays(b, s) {
			part[reached] = s
		}
	}
	return part
}

// ruleNeedless returns the indices of the blocks without which the same states are allowed.
func ruleNeedless(b impl.Bolts) []int {
	allowed := ruleAllowedStates(b)
	var needless []int
	for k := range b.Blocks {
		without := impl.Bolts{Places: b.Places, Blocks: slices.Delete(slices.Clone(b.Blocks), k, k+1)}
		if slices.Equal(ruleAllowedStates(without), allowed) {
			needless = append(needless, k)
		}
	}
	return needless
}

// farthestOf returns the first one of the states with the longest lists, and how long these are.
func farthestOf(ways map[string]slidWays) (string, int) {
	far, most := "", -1
	for s, way := range ways {
		if n := len(way.first); n > most || n == most && s < far {
			far, most = s, n
		}
	}
	return far, most
}
