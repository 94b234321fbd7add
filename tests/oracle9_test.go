package tests

import (
	"slices"
	"strings"

	"loop.example/g01314/impl"
)

// The rules of chapter 9 on texts: numbers and fewest moves are those that
// searches by the rules of chapter 1 find, and solutions are what is left when
// all states are tried one by one.

// hiddenRules tell of so many rings all states, those with lesser numbers first,
// and how many moves, as few as there can be, lead from each one to each other one.
type hiddenRules struct {
	rings int
	line  []string
	apart map[string]map[string]int
}

func hiddenRulesOf(rings int) hiddenRules {
	rules := hiddenRules{rings: rings, line: make([]string, 1<<rings), apart: map[string]map[string]int{}}
	for _, s := range statesOf(rings) {
		rules.apart[s] = distancesFrom(s, besides, func(s, beside string) string { return beside })
		rules.line[rules.apart[s][off(rings)]] = s
	}
	return rules
}

// allHiddenRules returns the rules of all numbers of rings that a hidden state can have.
func allHiddenRules() []hiddenRules {
	var list []hiddenRules
	for rings := 1; rings <= 7; rings++ {
		list = append(list, hiddenRulesOf(rings))
	}
	return list
}

func (rules hiddenRules) number(s string) int {
	return rules.apart[s][off(rules.rings)]
}

// clues returns all clues of so many rings, of those of the kind 3 the ones with at most so many moves.
func (rules hiddenRules) clues(moves int) []impl.Clue {
	var list []impl.Clue
	for ring := range rules.rings {
		list = append(list, impl.Clue{Kind: 0, A: ring, B: 0}, impl.Clue{Kind: 0, A: ring, B: 1})
		list = append(list, impl.Clue{Kind: 4, A: ring, B: 0}, impl.Clue{Kind: 4, A: ring, B: 1})
	}
	for on := 0; on <= rules.rings; on++ {
		list = append(list, impl.Clue{Kind: 1, A: on, B: 0})
	}
	for divisor := 2; divisor <= 9; divisor++ {
		for rest := range divisor {
			list = append(list, impl.Clue{Kind: 2, A: divisor, B: rest})
		}
	}
	for number := range rules.line {
		for made := 0; made <= moves; made++ {
			list = append(list, impl.Clue{Kind: 3, A: number, B: made})
		}
	}
	return list
}

func (rules hiddenRules) fits(c impl.Clue, s string) bool {
	switch c.Kind {
	case 0:
		return int(s[c.A]-'0') == c.B
	case 1:
		return strings.Count(s, "1") == c.A
	case 2:
		return rules.number(s)%c.A == c.B
	case 3:
		return rules.apart[s][rules.line[c.A]] == c.B
	}
	return ruleMoves(s, c.A) == (c.B == 1)
}

// solutions returns the states that fit all clues, those with lesser numbers first.
func (rules hiddenRules) solutions(clues []impl.Clue) []string {
	var list []string
	for _, s := range rules.line {
		if !slices.ContainsFunc(clues, func(c impl.Clue) bool { return !rules.fits(c, s) }) {
			list = append(list, s)
		}
	}
	return list
}

// cluesBut returns the clues of which dropped does not tell.
func cluesBut(clues []impl.Clue, dropped func(int) bool) []impl.Clue {
	var list []impl.Clue
	for k, c := range clues {
		if !dropped(k) {
			list = append(list, c)
		}
	}
	return list
}

// needless returns the indices of the clues that alone can be dropped without a solution more.
func (rules hiddenRules) needless(clues []impl.Clue) []int {
	var list []int
	for k := range clues {
		others := cluesBut(clues, func(i int) bool { return i == k })
		if len(rules.solutions(others)) == len(rules.solutions(clues)) {
			list = append(list, k)
		}
	}
	return list
}

// harder returns the clues that are left if from the first one on each one is
// dropped without which, and without those dropped before, there is one solution.
func (rules hiddenRules) harder(clues []impl.Clue) []impl.Clue {
	dropped := make([]bool, len(clues))
	isDropped := func(k int) bool { return dropped[k] }
	for k := range clues {
		dropped[k] = true
		dropped[k] = len(rules.solutions(cluesBut(clues, isDropped))) == 1
	}
	return cluesBut(clues, isDropped)
}

// sureOf returns for each ring the sign that all of some states have, or ?. There is one state, or more.
func sureOf(states []string) string {
	sure := ""
	for k := range states[0] {
		column := ""
		for _, s := range states {
			column += s[k : k+1]
		}
		switch {
		case !strings.Contains(column, "1"):
			sure += "0"
		case !strings.Contains(column, "0"):
			sure += "1"
		default:
			sure += "?"
		}
	}
	return sure
}

// made returns the clues of a state that are made with a seed.
func (rules hiddenRules) made(s string, clues, seed int) []impl.Clue {
	var list []impl.Clue
	for z := seed; len(list) < clues; {
		z = (181*z + 2477) % 10007
		kind := z % 5
		z = (181*z + 2477) % 10007
		a := [5]int{z % rules.rings, strings.Count(s, "1"), z%8 + 2, z % len(rules.line), z % rules.rings}[kind]
		// Of all clues with this kind and A, it is the one that the state fits.
		b := slices.IndexFunc(firstNumbers(128), func(b int) bool { return rules.fits(impl.Clue{Kind: kind, A: a, B: b}, s) })
		list = append(list, impl.Clue{Kind: kind, A: a, B: b})
	}
	return list
}
