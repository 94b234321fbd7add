package tests

import (
	"cmp"
	"slices"
	"strings"

	"loop.example/g01314/impl"
)

// The rules of chapter 6 on texts: each rule in turn tells which states it
// links, and searches go along these links.

// turnTold is a turn: a part and By.
type turnTold = [2]int

// boxOfText reads a BoxText by itself.
func boxOfText(s string) impl.Box {
	return impl.Box{Parts: int(s[0] - '0'), Sides: int(s[2] - '0'), Rules: strings.Split(s, ":")[1:]}
}

// textOfBox writes a BoxText by itself.
func textOfBox(b impl.Box) string {
	return string(rune('0'+b.Parts)) + "x" + string(rune('0'+b.Sides)) + ":" + strings.Join(b.Rules, ":")
}

// boxStates returns all states of a box, in order.
func boxStates(b impl.Box) []string {
	return digitTexts(slices.Repeat([]int{b.Sides}, b.Parts))
}

func turnedText(s string, turn turnTold) string {
	signs := []byte(s)
	signs[turn[0]] = byte(int(signs[turn[0]]) + turn[1])
	return string(signs)
}

// ruleHolds compares the signs of the other parts one by one.
func ruleHolds(rule, s string, part int) bool {
	for other := range len(s) {
		if other != part && rule[other] != '?' && rule[other] != s[other] {
			return false
		}
	}
	return true
}

// turnLinks maps each state to all turns from it, in order.
type turnLinks map[string][]turnTold

// ruleTurns goes through the rules of all parts and sides, in their order.
func ruleTurns(b impl.Box) turnLinks {
	links := turnLinks{}
	states := boxStates(b)
	rules := b.Rules
	for part := range b.Parts {
		for side := range b.Sides - 1 {
			for _, s := range states {
				if int(s[part]-'0') == side && ruleHolds(rules[0], s, part) {
					links[s] = append(links[s], turnTold{part, 1})
					next := turnedText(s, turnTold{part, 1})
					links[next] = append(links[next], turnTold{part, -1})
				}
			}
			rules = rules[1:]
		}
	}
	for s := range links {
		slices.SortFunc(links[s], compareTurns)
	}
	return links
}

func compareTurns(a, b turnTold) int {
	return cmp.Or(cmp.Compare(a[0], b[0]), cmp.Compare(b[1], a[1]))
}

func (links turnLinks) from(s string) []turnTold {
	return links[s]
}

// turnLists maps each state that is reached to all lists of fewest turns from start to it, in order.
func (links turnLinks) turnLists(start string) map[string][][]turnTold {
	return listsFrom(start, links.from, turnedText, compareTurns)
}

type turnedWays = foundWays[turnTold]

// turnWays maps each state that is reached to its ways from start.
func (links turnLinks) turnWays(start string) map[string]turnedWays {
	return waysFrom(start, links.from, turnedText)
}

// turnDistances maps each state that is reached to the fewest number of turns from start to it.
func (links turnLinks) turnDistances(start string) map[string]int {
	return distancesFrom(start, links.from, turnedText)
}

// backText returns a state or a rule with its sides told from the last one on.
func backText(s string, sides int) string {
	signs := []byte(s)
	for i, sign := range signs {
		if sign != '?' {
			signs[i] = byte('0'+sides-1) - (sign - '0')
		}
	}
	return string(signs)
}
