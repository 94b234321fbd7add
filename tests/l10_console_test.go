package tests

import (
	"fmt"
	"math/rand"
	"slices"
	"strings"
	"testing"

	"loop.example/g01314/impl"
)

// Promise 10: scripts do what the calls do that they name.

const mostLineBytes = 3000

const firstDesk = "111 ???/1??/01?"

// deskOf reads a State and a KeysText with a blank between them.
func deskOf(s string) impl.Desk {
	state, keys, _ := strings.Cut(s, " ")
	return impl.Desk{State: state, Keys: keysOfText(keys)}
}

func barDesk(rings int) impl.Desk {
	return impl.Desk{State: strings.Repeat("1", rings), Keys: barKeysOf(rings)}
}

// deskName tells of a desk, which may have very many keys, by the first few.
func deskName(d impl.Desk) string {
	return fmt.Sprintf(" %.30q%s", d.State, keysName(d.Keys))
}

func isSameDesk(d, other impl.Desk) bool {
	return d.State == other.State && slices.Equal(d.Keys, other.Keys)
}

func wantDesk(t *testing.T, what string, d impl.Desk, ok bool, wanted impl.Desk) {
	t.Helper()
	if !ok || !isSameDesk(d, wanted) {
		t.Errorf("%s: got%s, %v, want%s, true", what, deskName(d), ok, deskName(wanted))
	}
}

func wantNoDesk(t *testing.T, what string, d impl.Desk, ok bool) {
	t.Helper()
	if ok || d.State != "" || len(d.Keys) != 0 {
		t.Errorf("%s: got%s, %v, want a failure", what, deskName(d), ok)
	}
}

// wantLine compares the reply to a line on a desk, and the desk behind it.
func wantLine(t *testing.T, d impl.Desk, line, reply string, behind impl.Desk) {
	t.Helper()
	what := fmt.Sprintf("DeskLine%s %.80q", deskName(d), line)
	after, told, ok := impl.DeskLine(d, line)
	wantDesk(t, what, after, ok, behind)
	want(t, what, told, ok, reply)
}

// wantRefused checks a line that leaves the desk as it was.
func wantRefused(t *testing.T, s, line, reply string) {
	t.Helper()
	d := deskOf(s)
	wantLine(t, d, line, reply, d)
	if rings := len(d.State); isSameDesk(d, barDesk(rings)) {
		// One line of a script leads to this desk.
		wantScript(t, []string{fmt.Sprint("bar ", rings), line}, executed{
			desks: []impl.Desk{d, d}, replies: []string{d.State, reply}, failed: []int{2},
		})
	}
}

func failsForLine(t *testing.T, d impl.Desk, line string) {
	t.Helper()
	what := fmt.Sprintf("DeskLine%s %.80q", deskName(d), line)
	after, reply, ok := impl.DeskLine(d, line)
	wantNoDesk(t, what, after, ok)
	wantFail(t, what, reply, ok)
}

func scriptOf(lines []string) string {
	script := ""
	for _, line := range lines {
		script += line + "\n"
	}
	return script
}

// wantScript compares what lines lead to: all at once, and one after the other.
func wantScript(t *testing.T, lines []string, wanted executed) {
	t.Helper()
	s := scriptOf(lines)
	what := fmt.Sprintf(" %.200q", s)
	replies, ok := impl.RunScript(s)
	wantList(t, "RunScript"+what, replies, ok, wanted.replies)
	failed, ok := impl.FailedLines(s)
	wantList(t, "FailedLines"+what, failed, ok, wanted.failed)
	d := impl.FirstDesk()
	for i, line := range lines {
		wantLine(t, d, line, wanted.replies[i], wanted.desks[i])
		d, _, _ = impl.DeskLine(d, line)
	}
	after, ok := impl.DeskAfter(s)
	wantDesk(t, "DeskAfter"+what, after, ok, d)
}

func failsForScript(t *testing.T, s string) {
	t.Helper()
	what := fmt.Sprintf(" %.80q", s)
	replies, ok := impl.RunScript(s)
	wantFailList(t, "RunScript"+what, replies, ok)
	failed, ok := impl.FailedLines(s)
	wantFailList(t, "FailedLines"+what, failed, ok)
	after, ok := impl.DeskAfter(s)
	wantNoDesk(t, "DeskAfter"+what, after, ok)
}

func TestChapter10LimitsAsTold(t *testing.T) {
	if impl.MaxScript != 3000 || impl.MaxLines != 50 {
		t.Error("limits", impl.MaxScript, impl.MaxLines)
	}
}

func TestFirstDesk(t *testing.T) {
	wantDesk(t, "FirstDesk", impl.FirstDesk(), true, deskOf(firstDesk))
}

// manyDesks are desks of all numbers of rings, with keys of all sorts.
func manyDesks() []impl.Desk {
	random := rand.New(rand.NewSource(10))
	var list []impl.Desk
	for rings := 1; rings <= 10; rings++ {
		for _, keys := range [][]string{barKeysOf(rings), freeKeysOf(rings), lockedKeys(rings), mixedKeys(random, rings, 2), mixedKeys(random, rings, 4)} {
			for _, s := range []string{off(rings), strings.Repeat("1", rings), stateNumbered(rings, random.Intn(1<<rings))} {
				list = append(list, impl.Desk{State: s, Keys: keys})
			}
		}
	}
	return list
}

// noDesks have a State that is none, Keys that are none, or both of different rings.
func noDesks() []impl.Desk {
	list := []impl.Desk{
		{}, {State: "1"}, {State: "111"}, {Keys: []string{"?"}}, {Keys: barKeysOf(3)}, {State: "", Keys: []string{""}}, {State: "", Keys: []string{}},
		{State: strings.Repeat("1", 11), Keys: barKeysOf(11)}, {State: strings.Repeat("1", 11), Keys: barKeysOf(10)}, {State: off(10), Keys: freeKeysOf(11)},
		{State: off(20), Keys: freeKeysOf(20)}, {State: off(21), Keys: freeKeysOf(21)}, {State: off(1 << 16), Keys: barKeysOf(3)}, {State: "111", Keys: slices.Repeat([]string{"???"}, 1<<16)},
	}
	for _, s := range []string{"11", "1111", "11x", "?11", "11?", "12 ", "1 1", "011\n", "\n11", "1１", "\xff11", "11\x00", "0", "00000000000"} {
		list = append(list, impl.Desk{State: s, Keys: barKeysOf(3)})
	}
	for _, text := range []string{"??/1?", "????/1???/01??/001?", "???/1??", "???/1??/011", "0??/1??/01?", "???/1??/01x", "???/1??/01", "???/1??/01??", "???/1??/", "///", "111/111/111", "???/1??/01?/"} {
		list = append(list, deskOf("111 "+text))
	}
	for _, keys := range noKeys() {
		list = append(list, impl.Desk{State: off(len(keys)), Keys: keys}, impl.Desk{State: "111", Keys: keys})
	}
	return list
}

func TestIsDesk(t *testing.T) {
	for _, d := range append(manyDesks(), deskOf("00 ?1/1?"), deskOf("1 ?"), impl.FirstDesk()) {
		if !impl.IsDesk(d) {
			t.Error("IsDesk is false:", deskName(d))
		}
		wantLine(t, d, "show", d.State, d)
	}
	for _, d := range noDesks() {
		if impl.IsDesk(d) {
			t.Error("IsDesk is true:", deskName(d))
		}
		for _, line := range []string{"show", "bar 3", "set 111", "number", "fly", ""} {
			failsForLine(t, d, line)
		}
	}
}

// A bar can be a desk of each number of rings that keys can have, and of no other one.
func TestDesksOfBars(t *testing.T) {
	for rings := range 25 {
		d := barDesk(rings)
		line := fmt.Sprint("bar ", rings)
		if rings < 1 || rings > 10 {
			wantRefused(t, firstDesk, line, "no")
			wantRefused(t, "00 ?1/1?", line, "no")
			failsForLine(t, d, "show")
			continue
		}
		wantLine(t, deskOf(firstDesk), line, d.State, d)
		wantLine(t, deskOf("01 ?1/1?"), line, d.State, d)
		wantLine(t, d, "rule", strings.Join(d.Keys, "/"), d)
	}
}

func TestLinesWithAnEffect(t *testing.T) {
	for _, told := range []struct{ desk, line, reply, behind string }{
		{firstDesk, "bar 1", "1", "1 ?"},
		{firstDesk, "bar 2", "11", "11 ??/1?"},
		{firstDesk, "bar 3", "111", firstDesk},
		{"010 ?01/1?0/11?", "bar 3", "111", firstDesk},
		{"00 ?1/1?", "bar 4", "1111", "1111 ????/1???/01??/001?"},
		{firstDesk, "set 010", "010", "010 ???/1??/01?"},
		{firstDesk, "set 111", "111", firstDesk},
		{"00 ?1/1?", "set 10", "10", "10 ?1/1?"},
		{"1 ?", "set 0", "0", "0 ?"},
		{firstDesk, "keys ???/0?1/11?", "???/0?1/11?", "111 ???/0?1/11?"},
		{firstDesk, "keys ???/1??/01?", "???/1??/01?", firstDesk},
		{"00 ??/1?", "keys ?1/1?", "?1/1?", "00 ?1/1?"},
		{"1 ?", "keys ?", "?", "1 ?"},
		{firstDesk, "play a", "011", "011 ???/1??/01?"},
		{firstDesk, "play aca", "110", "110 ???/1??/01?"},
		{firstDesk, "play acaba", "000", "000 ???/1??/01?"},
		{firstDesk, "play aa", "111", firstDesk},
		{"111 ?11/1?1/11?", "play aca", "110", "110 ?11/1?1/11?"},
		{firstDesk, "play ", "111", firstDesk},
		{"01 ?1/1?", "play ", "01", "01 ?1/1?"},
		{firstDesk, "nth 0", "000", "000 ???/1??/01?"},
		{firstDesk, "nth 3", "010", "010 ???/1??/01?"},
		{firstDesk, "nth 7", "001", "001 ???/1??/01?"},
		{"00 ?1/1?", "nth 3", "01", "01 ?1/1?"},
		{firstDesk, "toward 000", "011", "011 ???/1??/01?"},
		{firstDesk, "toward 011", "011", "011 ???/1??/01?"},
		{firstDesk, "toward 001", "101", "101 ???/1??/01?"},
		{"010 ?11/1?1/11?", "toward 111", "011", "011 ?11/1?1/11?"},
		{"00 ?1/1?", "toward 01", "10", "10 ?1/1?"},
		{firstDesk, "turn 0", "011", "011 ???/1??/01?"},
		{firstDesk, "turn 1", "101", "101 ???/1??/01?"},
		{"111 ???/???/???", "turn 2", "110", "110 ???/???/???"},
		{"01 ?1/1?", "turn 0", "11", "11 ?1/1?"},
	} {
		wantLine(t, deskOf(told.desk), told.line, told.reply, deskOf(told.behind))
	}
}

func TestLinesThatAsk(t *testing.T) {
	for _, told := range []struct{ desk, line, reply string }{
		{firstDesk, "show", "111"}, {"01 ?1/1?", "show", "01"}, {"0 ?", "show", "0"},
		{firstDesk, "rule", "???/1??/01?"}, {"01 ?1/1?", "rule", "?1/1?"}, {"0 ?", "rule", "?"},
		{firstDesk, "number", "5"}, {"101 ???/1??/01?", "number", "6"}, {"000 ???/1??/01?", "number", "0"}, {"01 ?1/1?", "number", "3"},
		{firstDesk, "on", "3"}, {"101 ???/1??/01?", "on", "2"}, {"000 ???/1??/01?", "on", "0"},
		{firstDesk, "can", "0,1"}, {"010 ???/1??/01?", "can", "0,2"}, {"000 ???/1??/01?", "can", "0"}, {"00 ?1/1?", "can", "0"}, {"001 ???/???/???", "can", "0"},
		{firstDesk, "fit", "0,1"}, {"010 ???/1??/01?", "fit", "0,2"}, {"111 ???/???/???", "fit", "0,1,2"}, {"01 ?1/1?", "fit", "0"}, {"111 ?0?/0?0/11?", "fit", "2"},
		{firstDesk, "far 000", "5"}, {firstDesk, "far 001", "2"}, {firstDesk, "far 111", "0"}, {"00 ?1/1?", "far 01", "3"},
		{firstDesk, "way 000", "acaba"}, {firstDesk, "way 001", "ba"}, {"000 ???/???/???", "way 111", "abaca"}, {"1 ?", "way 0", "a"},
		{firstDesk, "pair 000", "4"}, {firstDesk, "pair 001", "1"}, {firstDesk, "pair 111", "0"}, {"11 ?1/1?", "pair 00", "1"},
		{firstDesk, "key 000", "5"}, {"111 ???/???/???", "key 000", "3"}, {"00 ??/1?", "key 01", "3"}, {"01 ?1/1?", "key 10", "2"}, {"00 ?1/1?", "key 00", "0"},
		{firstDesk, "parts", "1"}, {"11 ?1/1?", "parts", "2"}, {"0 ?", "parts", "1"},
		{firstDesk, "long", "7"}, {"111 ???/???/???", "long", "3"}, {"00 ?1/1?", "long", "2"}, {"1 ?", "long", "1"},
		{firstDesk, "mean", "45"}, {"010 ???/1??/01?", "mean", "33"}, {"000 ???/1??/01?", "mean", "0"}, {"01 ?1/1?", "mean", "9"}, {"1 ?", "mean", "1"},
		{firstDesk, "walks 000 5", "1"}, {firstDesk, "walks 111 0", "1"}, {firstDesk, "walks 111 1", "0"}, {firstDesk, "walks 111 2", "2"}, {firstDesk, "walks 101 3", "3"},
		{"10 ?1/1?", "walks 10 2", "2"}, {"0 ?", "walks 1 39", "1"}, {"0 ?", "walks 1 40", "0"},
	} {
		wantLine(t, deskOf(told.desk), told.line, told.reply, deskOf(told.desk))
	}
}

func TestExampleOfScript(t *testing.T) {
	lines := strings.Split("number|way 000|pair 000|toward 000|play c|can|mean|keys ???/???/???|key 101|parts|turn 1|walks 000 2|nth 7|bar 2|rule|play b|set 111|turn 5|fly", "|")
	all := executed{
		replies: strings.Split("5|acaba|4|011|010|0,2|33|???/???/???|3|1|000|1|001|11|??/1?|10|what|no|what", "|"),
		failed:  []int{17, 18, 19},
	}
	for _, s := range []string{
		firstDesk, firstDesk, firstDesk, "011 ???/1??/01?", "010 ???/1??/01?", "010 ???/1??/01?", "010 ???/1??/01?", "010 ???/???/???", "010 ???/???/???", "010 ???/???/???",
		"000 ???/???/???", "000 ???/???/???", "001 ???/???/???", "11 ??/1?", "11 ??/1?", "10 ??/1?", "10 ??/1?", "10 ??/1?", "10 ??/1?",
	} {
		all.desks = append(all.desks, deskOf(s))
	}
	wantScript(t, lines, all)
	after, ok := impl.DeskAfter(scriptOf(lines))
	wantDesk(t, "DeskAfter the example", after, ok, deskOf("10 ??/1?"))
}

func TestScriptWithoutLines(t *testing.T) {
	replies, ok := impl.RunScript("")
	wantList(t, "RunScript of no lines", replies, ok, nil)
	failed, ok := impl.FailedLines("")
	wantList(t, "FailedLines of no lines", failed, ok, nil)
	d, ok := impl.DeskAfter("")
	wantDesk(t, "DeskAfter no lines", d, ok, deskOf(firstDesk))
}

func TestScriptsOfOneLine(t *testing.T) {
	first := deskOf(firstDesk)
	wantScript(t, []string{"show"}, executed{desks: []impl.Desk{first}, replies: []string{"111"}})
	wantScript(t, []string{"turn 0"}, executed{desks: []impl.Desk{deskOf("011 ???/1??/01?")}, replies: []string{"011"}})
	wantScript(t, []string{""}, executed{desks: []impl.Desk{first}, replies: []string{"what"}, failed: []int{1}})
	wantScript(t, []string{"turn 2"}, executed{desks: []impl.Desk{first}, replies: []string{"no"}, failed: []int{1}})
	wantScript(t, []string{"show\r"}, executed{desks: []impl.Desk{first}, replies: []string{"what"}, failed: []int{1}})
}

func TestEmptyLines(t *testing.T) {
	first, other := deskOf(firstDesk), deskOf("011 ???/1??/01?")
	wantScript(t, []string{"", "show", "", "", "play a", "", "number", ""}, executed{
		desks:   []impl.Desk{first, first, first, first, other, other, other, other},
		replies: []string{"what", "111", "what", "what", "011", "what", "4", "what"},
		failed:  []int{1, 3, 4, 6, 8},
	})
}

func TestScriptsOfMostLines(t *testing.T) {
	rules := newConsole()
	for _, line := range []string{"", "show", "turn 0", "fly", "turn 2", "toward 000"} {
		lines := slices.Repeat([]string{line}, 50)
		wantScript(t, lines, rules.executeAll(lines))
		wantScript(t, lines[:49], rules.executeAll(lines[:49]))
		failsForScript(t, scriptOf(slices.Repeat([]string{line}, 51)))
		failsForScript(t, scriptOf(lines)+line+"x")
	}
	failsForScript(t, strings.Repeat("\n", mostLineBytes))
}

func TestScriptsOfMostBytes(t *testing.T) {
	rules := newConsole()
	long := strings.Repeat("x", mostLineBytes)
	moves := "play " + strings.Repeat("a", 1999)
	for _, lines := range [][]string{
		{long[:2999]}, {"show", long[:2994]}, {long[:2994], "show"}, {moves, long[:2994-len(moves)-1], "show"},
		slices.Repeat([]string{long[:59]}, 50), slices.Repeat([]string{"play " + strings.Repeat("a", 54)}, 50),
	} {
		if len(scriptOf(lines)) != mostLineBytes {
			t.Fatal("a script of", len(scriptOf(lines)), "bytes")
		}
		wantScript(t, lines, rules.executeAll(lines))
		fewer := slices.Clone(lines)
		fewer[0] = fewer[0][:len(fewer[0])-1]
		wantScript(t, fewer, rules.executeAll(fewer))
		more := slices.Clone(lines)
		more[0] += "x"
		failsForScript(t, scriptOf(more))
	}
	failsForScript(t, long)
	failsForScript(t, long+"\n")
	failsForScript(t, strings.Repeat("show\n", 1<<16))
}

func TestScriptsWhoseLastLineIsNotEnded(t *testing.T) {
	for _, s := range []string{"show", "x", " ", "\r", "\x00", "show\nshow", "\nshow", "show\n ", "show\n\n ", "fly", "show\r", "\n\n\nx", strings.Repeat("show\n", 49) + "show"} {
		failsForScript(t, s)
		if strings.Count(s, "\n") < 50 {
			replies, ok := impl.RunScript(s + "\n")
			want(t, "replies to lines that are ended", len(replies), ok, strings.Count(s, "\n")+1)
		}
	}
}

func TestDeskLineTakesNoNewlines(t *testing.T) {
	for _, line := range []string{"\n", "show\n", "\nshow", "sh\now", "show\nshow", "show\n\n", "play \n", "set 111\n", "fly\n", strings.Repeat("x", 2999) + "\n"} {
		for _, d := range []impl.Desk{deskOf(firstDesk), deskOf("00 ?1/1?"), barDesk(10)} {
			failsForLine(t, d, line)
		}
	}
}

func TestLinesOfMostBytes(t *testing.T) {
	d := deskOf(firstDesk)
	for _, line := range []string{strings.Repeat("x", 3000), strings.Repeat(" ", 3000), strings.Repeat("\x00", 3000), "play " + strings.Repeat("a", 2995), "set " + off(2996), "nth " + strings.Repeat("0", 2996), "show" + strings.Repeat(" ", 2996)} {
		wantNoLine(t, d, line)
		wantNoLine(t, d, line[:2999])
		failsForLine(t, d, line+" ")
		failsForLine(t, d, line+"x")
	}
	failsForLine(t, d, strings.Repeat("x", 1<<16))
}

// wantNoLine checks a line that is none.
func wantNoLine(t *testing.T, d impl.Desk, line string) {
	t.Helper()
	wantLine(t, d, line, "what", d)
}

// ordinaryLines has one line of each form, that has an effect or is answered.
func ordinaryLines() []string {
	return []string{
		"bar 3", "set 010", "keys ???/???/???", "play aca", "nth 6", "toward 000", "turn 1", "show", "rule", "number", "on", "can", "fit",
		"far 000", "way 000", "pair 000", "key 000", "parts", "long", "mean", "walks 011 3",
	}
}

func TestOrdinaryLinesAreAllForms(t *testing.T) {
	lines := ordinaryLines()
	for i, line := range tableLines() {
		first, rest, _ := strings.Cut(line.form, " ")
		told := strings.Split(lines[i], " ")
		if told[0] != first || len(told)-1 != len(strings.Fields(rest)) {
			t.Errorf("the line %s stands for %s", lines[i], line.form)
		}
		if _, reply, ok := impl.DeskLine(deskOf(firstDesk), lines[i]); !ok || reply == "no" || reply == "what" {
			t.Errorf("the reply to %s is %s", lines[i], reply)
		}
	}
}

// Blanks that are too many make words that are empty.
func TestWordsThatAreEmpty(t *testing.T) {
	for _, line := range ordinaryLines() {
		for _, other := range []string{" " + line, "  " + line, line + " ", line + "  ", strings.ReplaceAll(line, " ", "  "), strings.Replace(line, " ", "  ", 1)} {
			if other != line {
				wantRefused(t, firstDesk, other, "what")
			}
		}
		first, rest, _ := strings.Cut(line, " ")
		if rest != "" && first != "play" {
			wantRefused(t, firstDesk, first+" ", "what")
		}
	}
	for _, line := range []string{"", " ", "  ", "   ", "play  ", " play ", "play a ", "play  a", "play a  ", "walks  3", "walks 011 ", "walks  ", "walks   "} {
		wantRefused(t, firstDesk, line, "what")
	}
}

func TestTooFewAndTooManyWords(t *testing.T) {
	for _, line := range ordinaryLines() {
		list := strings.Split(line, " ")
		for count := 1; count < len(list); count++ {
			wantRefused(t, firstDesk, strings.Join(list[:count], " "), "what")
		}
		for _, more := range []string{"0", "1", "000", "111", "a", "show", "???/1??/01?", "x", "0 0"} {
			wantRefused(t, firstDesk, line+" "+more, "what")
		}
	}
	for _, line := range []string{"play a a", "play aca b", "walks 000 000 2", "walks 2", "walks 2 000", "bar 3 3", "set 010 010", "keys ??? 1?? 01?", "keys"} {
		wantRefused(t, firstDesk, line, "what")
	}
}

func TestFirstWordsThatAreNone(t *testing.T) {
	for _, line := range ordinaryLines() {
		first, rest, _ := strings.Cut(line, " ")
		for _, other := range []string{strings.ToUpper(first), strings.ToUpper(first[:1]) + first[1:], first + "s", first[1:], first[:len(first)-1], first + "\x00", "\t" + first, first + "\t", first + "\r", "-" + first, first + first, first + ":", "\ufeff" + first} {
			if slices.ContainsFunc(tableLines(), func(l tableLine) bool { return strings.HasPrefix(l.form+" ", other+" ") }) {
				continue
			}
			wantRefused(t, firstDesk, strings.TrimSuffix(other+" "+rest, " "), "what")
		}
		if rest != "" {
			wantRefused(t, firstDesk, strings.Replace(line, " ", "\t", 1), "what")
			wantRefused(t, firstDesk, strings.Replace(line, " ", ",", 1), "what")
			wantRefused(t, firstDesk, first+rest, "what")
		}
	}
	for _, line := range []string{"fly", "no", "what", "-", "N", "S", "0", "111", "a", "help", "undo", "move 0", "clear", "state 111", "\xff", "\xff\xfe show", "ｓhow", "show # all"} {
		wantRefused(t, firstDesk, line, "what")
	}
}

// toldNoNumbers are words that are no numbers in 0..999999, or have superfluous zeros.
var toldNoNumbers = []string{
	"", "00", "01", "007", "03", "000", "0000", "000000", "000001", "+0", "+1", "+3", "-0", "-1", "-3", "--1", "1-", "1.0", "1.", ".5", "1,0", "0x1", "0b1", "0o7", "1e2", "1_0", "1'000",
	"1000000", "1000001", "9999999", "10000000", "2147483648", "4294967297", "9223372036854775807", "9223372036854775808", "18446744073709551617", "-9223372036854775808",
	"a", "N", "1a", "a1", "x3", "3x", "?", "1?", "1/1", "1\x00", "\x001", "\xff", "3\xff", "１", "٣", "三", "1\t", "\t1", "1\r", strings.Repeat("1", 30), strings.Repeat("0", 999), strings.Repeat("9", 999),
}

func TestNumbersThatAreNone(t *testing.T) {
	for _, word := range toldNoNumbers {
		for _, form := range []string{"bar ", "nth ", "turn ", "walks 000 ", "walks 111 "} {
			wantRefused(t, firstDesk, form+word, "what")
			wantRefused(t, "0000000000 "+strings.Join(freeKeysOf(10), "/"), form+word, "what")
		}
	}
}

func TestLeastAndGreatestNumbers(t *testing.T) {
	for _, n := range []int{4, 5, 8, 9, 10, 11, 19, 20, 21, 40, 41, 63, 64, 99, 100, 1023, 1024, 9999, 65536, 100000, 999998, 999999} {
		wantRefused(t, "00 ?1/1?", fmt.Sprint("turn ", n), "no")
		wantRefused(t, "00 ?1/1?", fmt.Sprint("nth ", n), "no")
		if n > 10 {
			wantRefused(t, firstDesk, fmt.Sprint("bar ", n), "no")
		}
		if n > 40 {
			wantRefused(t, firstDesk, fmt.Sprint("walks 111 ", n), "no")
			wantRefused(t, firstDesk, fmt.Sprint("walks 000 ", n), "no")
		}
	}
	wantRefused(t, firstDesk, "bar 0", "no")
	first := deskOf(firstDesk)
	wantLine(t, first, "nth 0", "000", deskOf("000 ???/1??/01?"))
	wantLine(t, first, "turn 0", "011", deskOf("011 ???/1??/01?"))
	wantLine(t, first, "walks 111 0", "1", first)
	wantLine(t, first, "walks 000 0", "0", first)
	// 5 and 6 are next to each other, so that just odd numbers of moves lead from one to the other.
	walks, ok := impl.WalksTo("111", "101", 39)
	want(t, "more than 1<<30 walks", walks > 1<<30, ok, true)
	wantLine(t, first, "walks 101 39", fmt.Sprint(walks), first)
	wantLine(t, first, "walks 101 40", "0", first)
}

// Numbers of states end with that of the last ring alone.
func TestNumbersWithoutStates(t *testing.T) {
	for rings := 1; rings <= 10; rings++ {
		d := barDesk(rings)
		last := impl.Desk{State: off(rings - 1)[:rings-1] + "1", Keys: d.Keys}
		wantLine(t, d, fmt.Sprint("nth ", 1<<rings-1), last.State, last)
		wantLine(t, d, fmt.Sprint("nth ", 1<<rings), "no", d)
		wantLine(t, d, fmt.Sprint("nth ", 1<<rings+1), "no", d)
		wantLine(t, d, "nth 999999", "no", d)
	}
}

// linesWithState have a word that is to be a state: %s.
var linesWithState = []string{"set %s", "toward %s", "far %s", "way %s", "pair %s", "key %s", "walks %s 2"}

func TestStatesThatAreNone(t *testing.T) {
	words := []string{
		"", "2", "112", "x11", "11x", "1?1", "???", "１１１", "11\x00", "\x0011", "\xff\xff\xff", "1,1", "1/1", "1\t1", "-11", "+11", "11.", "aba", "acaba", "111\r", "000111x",
		"????????????????", "3", "5", "S",
	}
	for count := range 25 {
		if count != 3 {
			words = append(words, off(count), strings.Repeat("1", count))
		}
	}
	for _, word := range words {
		for _, line := range linesWithState {
			wantRefused(t, firstDesk, strings.Replace(line, "%s", word, 1), "what")
		}
	}
}

// A state has as many rings as that of the desk, whatever number that is.
func TestStatesOfOtherRings(t *testing.T) {
	for rings := 1; rings <= 10; rings++ {
		d := barDesk(rings)
		for other := 1; other <= 12; other++ {
			for _, form := range linesWithState {
				line := strings.Replace(form, "%s", off(other), 1)
				after, reply, ok := impl.DeskLine(d, line)
				switch {
				case other != rings:
					wantNoLine(t, d, line)
				case rings == 1 && form == "pair %s":
					wantLine(t, d, line, "no", d)
				case !ok || reply == "no" || reply == "what" || len(after.State) != rings:
					t.Errorf("the reply to %s is %s", line, reply)
				}
			}
		}
	}
}

func TestNoPairOfOneRing(t *testing.T) {
	for _, s := range []string{"0 ?", "1 ?"} {
		wantRefused(t, s, "pair 0", "no")
		wantRefused(t, s, "pair 1", "no")
		wantRefused(t, s, "pair 00", "what")
	}
	wantLine(t, deskOf("00 ?1/1?"), "pair 11", "1", deskOf("00 ?1/1?"))
}

func TestPlayedMoves(t *testing.T) {
	first := deskOf(firstDesk)
	wantLine(t, first, "play ", "111", first)
	wantRefused(t, firstDesk, "play", "what")
	// Each of these moves cannot be made, some of them behind others that can.
	for _, moves := range []string{"c", "d", "t", "j", "k", "bc", "ab", "acb", "aac", "acad", "acabac", "acabat", "at", "aaaaaaaac"} {
		wantRefused(t, firstDesk, "play "+moves, "no")
	}
	for _, moves := range []string{"u", "v", "z", "A", "B", "`", "{", "0", "1", "-", "a,b", "a-b", "aU", "Aa", "au", "ua", "a0", "acaba!", "\x00", "a\x00", "\xff", "a\xff", "ａ", "aé", "a\t", "a\r", "cu", "tu"} {
		wantRefused(t, firstDesk, "play "+moves, "what")
	}
}

// A MovesText has at most MaxMoves moves.
func TestMostMovesPlayed(t *testing.T) {
	first := deskOf(firstDesk)
	wantLine(t, first, "play "+strings.Repeat("a", 2000), "111", first)
	wantLine(t, first, "play "+strings.Repeat("a", 1999), "011", deskOf("011 ???/1??/01?"))
	wantLine(t, first, "play "+strings.Repeat("a", 1999)+"c", "010", deskOf("010 ???/1??/01?"))
	wantRefused(t, firstDesk, "play "+strings.Repeat("a", 1999)+"b", "no")
	wantRefused(t, firstDesk, "play "+strings.Repeat("a", 1998)+"c", "no")
	for _, count := range []int{2001, 2002, 2500} {
		wantRefused(t, firstDesk, "play "+strings.Repeat("a", count), "what")
		wantRefused(t, firstDesk, "play c"+strings.Repeat("a", count-1), "what")
	}
}

func TestKeysThatAreNone(t *testing.T) {
	for _, word := range []string{
		"", "?", "???", "???/1??", "??/1?", "????/1???/01??/001?", "???/1??/01?/", "/???/1??/01?", "???/1??/011", "0??/1??/01?", "???/11?/01?", "???/1??/01x", "???/1??/01", "???/1??/01??",
		"???//01?", "//", "/", "???,1??,01?", "???;1??;01?", "???/1??/01?/???", "???\\1??\\01?", "???1??01?", "???/1??/０1?", "???/1??/\x001?", "???/1??/\xff1?", "111", "000/000/000", "-", "???/1??/01?\r",
		strings.Repeat("/", 109), strings.Repeat("?", 110), strings.Join(freeKeysOf(10), "/"), strings.Join(freeKeysOf(11), "/"), strings.Repeat("?/", 1400),
	} {
		wantRefused(t, firstDesk, "keys "+word, "what")
		wantRefused(t, "010 ???/???/???", "keys "+word, "what")
	}
}

// Keys are for as many rings as the State has, whatever number that is.
func TestKeysOfOtherRings(t *testing.T) {
	for rings := 1; rings <= 10; rings++ {
		d := barDesk(rings)
		for other := 1; other <= 11; other++ {
			for _, keys := range [][]string{barKeysOf(other), freeKeysOf(other), lockedKeys(other)} {
				text := strings.Join(keys, "/")
				if other == rings {
					wantLine(t, d, "keys "+text, text, impl.Desk{State: d.State, Keys: keys})
				} else {
					wantNoLine(t, d, "keys "+text)
				}
			}
		}
	}
}

func TestNoMoveToTheStateItself(t *testing.T) {
	for _, d := range manyDesks() {
		wantLine(t, d, "toward "+d.State, "no", d)
		wantLine(t, d, "way "+d.State, "-", d)
		wantLine(t, d, "far "+d.State, "0", d)
		wantLine(t, d, "key "+d.State, "0", d)
		wantLine(t, d, "set "+d.State, d.State, d)
		wantLine(t, d, "play ", d.State, d)
		wantLine(t, d, "walks "+d.State+" 0", "1", d)
		wantLine(t, d, "walks "+d.State+" 1", "0", d)
		if len(d.State) > 1 {
			wantLine(t, d, "pair "+d.State, "0", d)
		}
	}
}

func TestRingsThatCannotBeTurned(t *testing.T) {
	for _, told := range []struct{ desk, line string }{
		{firstDesk, "turn 2"}, {firstDesk, "turn 3"}, {firstDesk, "turn 10"}, {"011 ???/1??/01?", "turn 1"}, {"00 ?1/1?", "turn 0"}, {"00 ?1/1?", "turn 1"}, {"00 ?1/1?", "turn 2"},
		{"01 ?1/1?", "turn 1"}, {"1 ?", "turn 1"}, {"110 ?11/1?1/11?", "turn 0"}, {"110 ?11/1?1/11?", "turn 1"}, {"111 ?0?/0?0/11?", "turn 0"},
	} {
		wantRefused(t, told.desk, told.line, "no")
	}
	for k := range 10 {
		d := impl.Desk{State: off(10), Keys: lockedKeys(10)}
		wantLine(t, d, fmt.Sprint("turn ", k), "no", d)
		free := impl.Desk{State: off(10), Keys: freeKeysOf(10)}
		s := flipped(off(10), k)
		wantLine(t, free, fmt.Sprint("turn ", k), s, impl.Desk{State: s, Keys: free.Keys})
	}
}

func TestListsThatAreEmpty(t *testing.T) {
	for _, s := range []string{"00 ?1/1?", "000 ?11/1?1/11?", "0000000000 " + strings.Join(lockedKeys(10), "/")} {
		wantLine(t, deskOf(s), "fit", "-", deskOf(s))
		wantLine(t, deskOf(s), "can", "0", deskOf(s))
	}
	wantScript(t, []string{"keys ?00/0?0/00?", "fit", "way 111", "set 000", "fit", "way 000"}, executed{
		desks:   []impl.Desk{deskOf("111 ?00/0?0/00?"), deskOf("111 ?00/0?0/00?"), deskOf("111 ?00/0?0/00?"), deskOf("000 ?00/0?0/00?"), deskOf("000 ?00/0?0/00?"), deskOf("000 ?00/0?0/00?")},
		replies: []string{"?00/0?0/00?", "-", "-", "000", "0,1,2", "-"},
	})
}

func TestStatesInDifferentParts(t *testing.T) {
	for _, told := range []struct{ desk, line string }{
		{"00 ?1/1?", "key 11"}, {"00 ?1/1?", "key 01"}, {"11 ?1/1?", "key 00"}, {"000 ?11/1?1/11?", "key 111"}, {"001 ?11/1?1/11?", "key 010"},
	} {
		wantRefused(t, told.desk, told.line, "no")
	}
}

// Lines that fail are behind others that do not, and before them.
func TestRefusedLinesLeaveTheDesk(t *testing.T) {
	rules := newConsole()
	refused := []string{
		"", "fly", "bar 0", "bar 11", "bar 12", "bar 999999", "bar x", "set 11", "keys ??/1?", "keys ???/1??/011", "play bc", "play acad", "play u", "nth 8", "nth 08",
		"toward 0000", "turn 3", "turn -1", "far 1", "way 0000", "pair 00", "key 1111", "walks 000 41", "walks 000", "show 1", " ", "mean ",
	}
	for _, other := range []string{"show", "turn 0", "nth 3", "keys ???/???/???", "set 010", "toward 000"} {
		for _, line := range refused {
			lines := []string{other, line, "show", "rule", line, other}
			all := rules.executeAll(lines)
			if !slices.Contains(all.failed, 2) || !slices.Contains(all.failed, 5) {
				t.Errorf("the line %s does not fail behind %s", line, other)
			}
			wantScript(t, lines, all)
		}
	}
}

// allLines are lines of all forms with all states, all moves of at most two rings and numbers around those there are.
func allLines(rings int) []string {
	lines := append(ordinaryLines(), "play ", "bar 0", "bar 1", "bar 10", "bar 11")
	for _, s := range statesOf(rings) {
		for _, form := range linesWithState {
			lines = append(lines, strings.Replace(form, "%s", s, 1))
		}
		lines = append(lines, "walks "+s+" 7", "walks "+s+" 40")
	}
	for n := range 1<<rings + 2 {
		lines = append(lines, fmt.Sprint("nth ", n), fmt.Sprint("turn ", n))
	}
	for k := range rings + 1 {
		for other := range rings + 1 {
			lines = append(lines, "play "+string(rune('a'+k)), fmt.Sprintf("play %c%c", 'a'+k, 'a'+other))
		}
	}
	return lines
}

func TestAllLinesOnDesksOfFewRings(t *testing.T) {
	rules := newConsole()
	random := rand.New(rand.NewSource(4))
	for rings := 1; rings <= 4; rings++ {
		lines := allLines(rings)
		for _, keys := range [][]string{barKeysOf(rings), freeKeysOf(rings), lockedKeys(rings), mixedKeys(random, rings, 2)} {
			for _, s := range statesOf(rings) {
				d := impl.Desk{State: s, Keys: keys}
				for _, line := range lines {
					behind, reply := rules.execute(d, line)
					wantLine(t, d, line, reply, behind)
				}
			}
		}
	}
}

func TestLinesOnManyDesks(t *testing.T) {
	rules := newConsole()
	random := rand.New(rand.NewSource(11))
	for i, d := range manyDesks() {
		for range 60 {
			line := mixedLine(random, len(d.State))
			if line == "long" && len(d.State) > 7 && i%15 > 0 {
				continue
			}
			behind, reply := rules.execute(d, line)
			wantLine(t, d, line, reply, behind)
		}
	}
}

// mixedLine is a line for a desk of so many rings, at times one that is none.
func mixedLine(random *rand.Rand, rings int) string {
	forms := tableLines()
	form := forms[random.Intn(len(forms))].form
	first, rest, _ := strings.Cut(form, " ")
	line := first
	for _, sort := range strings.Fields(rest) {
		line += " " + mixedWord(random, sort, rings)
	}
	switch random.Intn(40) {
	case 0:
		return line + " "
	case 1:
		return line[1:]
	case 2:
		return strings.ReplaceAll(line, " ", "  ")
	case 3:
		return line[:random.Intn(len(line))]
	case 4:
		return line + " 0"
	}
	return line
}

// mixedWord is a word of a sort, at times one that is none.
func mixedWord(random *rand.Rand, sort string, rings int) string {
	if random.Intn(20) == 0 {
		rings = 1 + random.Intn(11)
	}
	switch sort {
	case "N":
		if random.Intn(20) == 0 {
			return toldNoNumbers[random.Intn(len(toldNoNumbers)-3)]
		}
		return fmt.Sprint(random.Intn([]int{3, 11, 1 << rings, 45, 1000000}[random.Intn(5)]))
	case "S":
		return stateNumbered(rings, random.Intn(1<<rings))
	case "F":
		return strings.Join(mixedKeys(random, rings, 1+random.Intn(5)), "/")
	}
	// The ring 0 and another one in turn, as ways have them.
	moves := ""
	for k := range random.Intn(6) {
		moves += string(rune('a' + k%2*(1+random.Intn(2))))
	}
	return moves
}

// mixedScript is a script for the desks that it leads over, of at most so many rings.
func mixedScript(random *rand.Rand, rules console, rings int) []string {
	var lines []string
	d := impl.FirstDesk()
	for range random.Intn(51) {
		line := mixedLine(random, len(d.State))
		behind, _ := rules.execute(d, line)
		if len(behind.State) > rings || len(scriptOf(lines))+len(line) >= mostLineBytes {
			continue
		}
		d = behind
		lines = append(lines, line)
	}
	return lines
}

func TestManyScripts(t *testing.T) {
	rules := newConsole()
	random := rand.New(rand.NewSource(12))
	for i := range 600 {
		rings := 5
		if i%20 == 0 {
			rings = 10
		}
		lines := mixedScript(random, rules, rings)
		wantScript(t, lines, rules.executeAll(lines))
	}
}

// Scripts lead on from each other: behind both parts the desk is the same as behind the whole.
func TestScriptsInTwoParts(t *testing.T) {
	rules := newConsole()
	random := rand.New(rand.NewSource(13))
	for range 60 {
		lines := mixedScript(random, rules, 4)
		all := rules.executeAll(lines)
		for count := range len(lines) + 1 {
			first := executed{desks: all.desks[:count], replies: all.replies[:count]}
			for _, number := range all.failed {
				if number <= count {
					first.failed = append(first.failed, number)
				}
			}
			wantScript(t, lines[:count], first)
		}
	}
}

// The way that is told leads to the state, move by move and all at once.
func TestScriptsThatClearBars(t *testing.T) {
	for rings := 1; rings <= 10; rings++ {
		d := barDesk(rings)
		goal := impl.Desk{State: off(rings), Keys: d.Keys}
		_, way, ok := impl.DeskLine(d, "way "+off(rings))
		moves, _ := impl.MovesToClear(rings)
		want(t, "moves of the way", len(way), ok, moves)
		wantLine(t, d, "number", fmt.Sprint(moves), d)
		wantLine(t, d, "far "+off(rings), fmt.Sprint(moves), d)
		wantLine(t, d, "key "+off(rings), fmt.Sprint(moves), d)
		wantLine(t, d, "play "+way, off(rings), goal)
		at := d
		for i := range way {
			_, told, _ := impl.DeskLine(at, fmt.Sprint("turn ", int(way[i]-'a')))
			at, _, ok = impl.DeskLine(at, "toward "+off(rings))
			want(t, "the ring turned by the key of the bar", told, ok, at.State)
		}
		wantDesk(t, "the desk behind the way", at, ok, goal)
		wantLine(t, at, "toward "+off(rings), "no", goal)
	}
}
