package tests

import (
	"fmt"
	"regexp"
	"strings"

	"loop.example/g01314/impl"
)

// The table of chapter 10 as the document has it: lines are recognised by
// regular expressions, one for each form and number of rings, and are executed
// by the calls of the other chapters that the table names, which have tests of
// their own.

// tableLine is a form of lines with what such a line does to a desk: the desk
// behind it, its reply, and whether the calls that it names succeed. The words
// are those behind the first one.
type tableLine struct {
	form string
	do   func(d impl.Desk, words []string) (impl.Desk, string, bool)
}

// tableLines are all forms, with N, S, T and F as the document has them.
func tableLines() []tableLine {
	return append(linesWithEffect(), linesThatAsk()...)
}

func linesWithEffect() []tableLine {
	return []tableLine{
		{"bar N", func(d impl.Desk, words []string) (impl.Desk, string, bool) {
			state, fine := impl.AllOn(numberOfText(words[0]))
			keys, good := impl.BarKeys(numberOfText(words[0]))
			return impl.Desk{State: state, Keys: keys}, state, fine && good
		}},
		{"set S", changing(func(d impl.Desk, words []string) (string, bool) { return words[0], true })},
		{"keys F", func(d impl.Desk, words []string) (impl.Desk, string, bool) {
			return impl.Desk{State: d.State, Keys: strings.Split(words[0], "/")}, words[0], true
		}},
		{"play T", changing(func(d impl.Desk, words []string) (string, bool) {
			s, ok := d.State, true
			for _, letter := range words[0] {
				if ok {
					s, ok = impl.MoveRing(s, int(letter-'a'))
				}
			}
			return s, ok
		})},
		{"nth N", changing(func(d impl.Desk, words []string) (string, bool) {
			return impl.StateOfNumber(len(d.State), numberOfText(words[0]))
		})},
		{"toward S", changing(func(d impl.Desk, words []string) (string, bool) {
			states, _ := impl.StatesBetween(d.State, words[0])
			if len(states) < 2 {
				return "", false
			}
			return states[1], true
		})},
		{"turn N", changing(func(d impl.Desk, words []string) (string, bool) {
			return impl.MoveKeyed(d.Keys, d.State, numberOfText(words[0]))
		})},
	}
}

func linesThatAsk() []tableLine {
	return []tableLine{
		{"show", asking(func(d impl.Desk, _ []string) (string, bool) { return d.State, true })},
		{"rule", asking(func(d impl.Desk, _ []string) (string, bool) { return impl.KeysText(d.Keys) })},
		{"number", asking(func(d impl.Desk, _ []string) (string, bool) { return numbered(impl.NumberOfState(d.State)) })},
		{"on", asking(func(d impl.Desk, _ []string) (string, bool) { return numbered(impl.CountOn(d.State)) })},
		{"can", asking(func(d impl.Desk, _ []string) (string, bool) { return listed(impl.MovesOf(d.State)) })},
		{"fit", asking(func(d impl.Desk, _ []string) (string, bool) { return listed(impl.KeyedMoves(d.Keys, d.State)) })},
		{"far S", asking(func(d impl.Desk, words []string) (string, bool) { return numbered(impl.FewestMoves(d.State, words[0])) })},
		{"way S", asking(func(d impl.Desk, words []string) (string, bool) {
			way, ok := impl.WayTo(d.State, words[0])
			if len(way) == 0 {
				return "-", ok
			}
			return impl.MovesText(way)
		})},
		{"pair S", asking(func(d impl.Desk, words []string) (string, bool) {
			return numbered(impl.FewestPairMoves(d.State, words[0]))
		})},
		{"key S", asking(func(d impl.Desk, words []string) (string, bool) {
			return numbered(impl.FewestKeyed(d.Keys, d.State, words[0]))
		})},
		{"parts", asking(func(d impl.Desk, _ []string) (string, bool) { return numbered(impl.PartsByKeys(d.Keys)) })},
		{"long", asking(func(d impl.Desk, _ []string) (string, bool) { return numbered(impl.LongestByKeys(d.Keys)) })},
		{"mean", asking(func(d impl.Desk, _ []string) (string, bool) { return numbered(impl.MeanToClear(d.State)) })},
		{"walks S N", asking(func(d impl.Desk, words []string) (string, bool) {
			return numbered(impl.WalksTo(d.State, words[0], numberOfText(words[1])))
		})},
	}
}

// changing makes the State what a function tells, and this the reply.
func changing(next func(impl.Desk, []string) (string, bool)) func(impl.Desk, []string) (impl.Desk, string, bool) {
	return func(d impl.Desk, words []string) (impl.Desk, string, bool) {
		s, ok := next(d, words)
		return impl.Desk{State: s, Keys: d.Keys}, s, ok
	}
}

// asking leaves the desk as it is.
func asking(reply func(impl.Desk, []string) (string, bool)) func(impl.Desk, []string) (impl.Desk, string, bool) {
	return func(d impl.Desk, words []string) (impl.Desk, string, bool) {
		told, ok := reply(d, words)
		return d, told, ok
	}
}

func numbered(n int, ok bool) (string, bool) {
	return fmt.Sprint(n), ok
}

func listed(list []int, ok bool) (string, bool) {
	if len(list) == 0 {
		return "-", ok
	}
	return strings.ReplaceAll(strings.Trim(fmt.Sprint(list), "[]"), " ", ","), ok
}

// expressionOf returns what recognises the lines of a form for so many rings.
func expressionOf(form string, rings int) *regexp.Regexp {
	var keys []string
	for k := range rings {
		keys = append(keys, fmt.Sprintf(`[01?]{%d}\?[01?]{%d}`, k, rings-1-k))
	}
	first, rest, _ := strings.Cut(form, " ")
	expression := "^" + first
	for _, word := range strings.Fields(rest) {
		expression += map[string]string{
			"N": ` (0|[1-9][0-9]{0,5})`,
			"S": fmt.Sprintf(` ([01]{%d})`, rings),
			"T": ` ([a-t]*)`,
			"F": ` (` + strings.Join(keys, "/") + `)`,
		}[word]
	}
	return regexp.MustCompile(expression + "$")
}

// console recognises the lines of all forms, those for each number of rings by themselves.
type console struct {
	lines       []tableLine
	expressions [11][]*regexp.Regexp
}

func newConsole() console {
	c := console{lines: tableLines()}
	for rings := 1; rings <= 10; rings++ {
		for _, line := range c.lines {
			c.expressions[rings] = append(c.expressions[rings], expressionOf(line.form, rings))
		}
	}
	return c
}

// execute returns the desk behind a line, and the reply to it.
func (c console) execute(d impl.Desk, line string) (impl.Desk, string) {
	for i, expression := range c.expressions[len(d.State)] {
		found := expression.FindStringSubmatch(line)
		if found == nil || c.lines[i].form == "play T" && len(found[1]) > 2000 {
			continue
		}
		if after, reply, ok := c.lines[i].do(d, found[1:]); ok {
			return after, reply
		}
		return d, "no"
	}
	return d, "what"
}

// executed is what the lines of a script lead to.
type executed struct {
	desks   []impl.Desk // behind each line
	replies []string
	failed  []int
}

// executeAll executes lines from the first desk on.
func (c console) executeAll(lines []string) executed {
	var all executed
	d := impl.Desk{State: "111", Keys: []string{"???", "1??", "01?"}}
	for i, line := range lines {
		after, reply := c.execute(d, line)
		d = after
		all.desks = append(all.desks, d)
		all.replies = append(all.replies, reply)
		if reply == "no" || reply == "what" {
			all.failed = append(all.failed, i+1)
		}
	}
	return all
}
