package tests

import "slices"

// The rules of chapter 8 on texts: each sign of the Needs is held against the
// lamp that it is at. Cycles are what is left of all states when ticks are made
// until no state gets lost any more.

func ruleTick(needs []string, s string) string {
	behind := s
	for lamp, need := range needs {
		changes := true
		for other := range len(s) {
			changes = changes && (need[other] == '?' || need[other] == s[other])
		}
		if changes {
			behind = flipped(behind, lamp)
		}
	}
	return behind
}

// lampRules tell of lamps all states in order, the one behind a tick for each
// of them, and the states from which ticks lead back to themselves.
type lampRules struct {
	needs  []string
	states []string
	behind map[string]string
	cyclic map[string]bool
}

func rulesOfLamps(needs []string) lampRules {
	rules := lampRules{needs: needs, states: statesOf(len(needs)), behind: map[string]string{}, cyclic: map[string]bool{}}
	for _, s := range rules.states {
		rules.behind[s] = ruleTick(needs, s)
		rules.cyclic[s] = true
	}
	for lost := true; lost; {
		left := map[string]bool{}
		for s := range rules.cyclic {
			left[rules.behind[s]] = true
		}
		lost = len(left) < len(rules.cyclic)
		rules.cyclic = left
	}
	return rules
}

// before returns all states from which a tick leads to one, in order.
func (rules lampRules) before(s string) []string {
	var list []string
	for _, other := range rules.states {
		if rules.behind[other] == s {
			list = append(list, other)
		}
	}
	return list
}

// lead returns how many ticks lead to a state that comes again.
func (rules lampRules) lead(s string) int {
	ticks := 0
	for ; !rules.cyclic[s]; s = rules.behind[s] {
		ticks++
	}
	return ticks
}

// cycle returns the states of the cycle into which ticks lead, from the first one in order on.
func (rules lampRules) cycle(s string) []string {
	for range rules.lead(s) {
		s = rules.behind[s]
	}
	cycle := []string{s}
	for next := rules.behind[s]; next != s; next = rules.behind[next] {
		cycle = append(cycle, next)
	}
	for cycle[0] != slices.Min(cycle) {
		cycle = append(cycle[1:], cycle[0])
	}
	return cycle
}

// cycles returns the numbers of states of cycles, and how many cycles have each.
func (rules lampRules) cycles() [][]int {
	counts := make([]int, len(rules.states)+1)
	for _, s := range rules.states {
		if rules.cyclic[s] && rules.cycle(s)[0] == s {
			counts[len(rules.cycle(s))]++
		}
	}
	var list [][]int
	for length, count := range counts {
		if count > 0 {
			list = append(list, []int{length, count})
		}
	}
	return list
}

// firstOn returns the least number of ticks behind which a lamp is on, or -1 if it never is.
func (rules lampRules) firstOn(s string, lamp int) int {
	for ticks := range len(rules.states) {
		if s[lamp] == '1' {
			return ticks
		}
		s = rules.behind[s]
	}
	return -1
}

// run tells, behind 0, 1, .. up to so many ticks, the state and how often each lamp has changed.
func (rules lampRules) run(s string, ticks int, tell func(ticks int, s string, times []int)) {
	times := make([]int, len(rules.needs))
	for made := 0; ; made++ {
		tell(made, s, times)
		if made == ticks {
			return
		}
		next := rules.behind[s]
		for lamp := range times {
			if next[lamp] != s[lamp] {
				times[lamp]++
			}
		}
		s = next
	}
}

// needed returns the lamps for which Needs have a sign other than ?, increasing.
func (rules lampRules) needed(lamp int) []int {
	var list []int
	for other, sign := range rules.needs[lamp] {
		if sign != '?' {
			list = append(list, other)
		}
	}
	return list
}

// exchangedText returns a text with 0 and 1 exchanged.
func exchangedText(s string) string {
	signs := []byte(s)
	for i, sign := range signs {
		if sign != '?' {
			signs[i] = '0' + '1' - sign
		}
	}
	return string(signs)
}
