package tests

import (
	"fmt"
	"math"
	"math/bits"
	"slices"
	"strings"
	"testing"

	"loop.example/g01314/impl"
)

// Promise 2: reflected numbers change one digit from each number to the next
// one, and orders are ranked.

const most = 1000000000000

var noReflectables = []int{math.MinInt, math.MinInt + 1, -most, -2, -1, most + 1, most + 2, 1 << 40, 1 << 62, math.MaxInt}

// numbersUpToMost are numbers all over 0..most, with both ends.
func numbersUpToMost() []int {
	list := []int{0, 1, 2, 3, most - 2, most - 1, most}
	for k := 2; k < 40; k++ {
		for _, n := range []int{1<<k - 1, 1 << k, 1<<k + 1, 3 << (k - 2), most >> k, 987654321987 >> k} {
			if n <= most {
				list = append(list, n)
			}
		}
	}
	return list
}

func TestChapter2LimitsAsTold(t *testing.T) {
	if impl.MaxReflected != most || impl.MaxSet != 20 || impl.MaxSwapped != 10 {
		t.Error("limits", impl.MaxReflected, impl.MaxSet, impl.MaxSwapped)
	}
}

func TestReflectedNumbersInTurn(t *testing.T) {
	list := reflectedList(14)
	times := make([]int, 60)
	for n, g := range list {
		got, ok := impl.ReflectedOf(n)
		want(t, fmt.Sprint("ReflectedOf ", n), got, ok, g)
		back, ok := impl.NumberOfReflected(g)
		want(t, fmt.Sprint("NumberOfReflected ", g), back, ok, n)
		for digit := range 51 {
			k, ok := impl.TimesChanged(0, n, digit)
			want(t, fmt.Sprint("TimesChanged 0 ", n, digit), k, ok, times[digit])
		}
		if n+1 < len(list) {
			digit := bits.Len(uint(g^list[n+1])) - 1
			times[digit]++
			got, ok := impl.ChangedDigit(n)
			want(t, fmt.Sprint("ChangedDigit ", n), got, ok, digit)
		}
	}
}

func TestReflectedNumbersAllOver(t *testing.T) {
	for _, n := range numbersUpToMost() {
		g, ok := impl.ReflectedOf(n)
		want(t, fmt.Sprint("ReflectedOf ", n), g, ok, n^n/2)
		plain, ok := impl.PlainSum(n, n/2)
		want(t, fmt.Sprint("PlainSum ", n, n/2), plain, ok, g)
		if g <= most {
			back, ok := impl.NumberOfReflected(g)
			want(t, fmt.Sprint("NumberOfReflected ", g), back, ok, n)
		}
		if n == most {
			continue
		}
		next, _ := impl.ReflectedOf(n + 1)
		digit, ok := impl.ChangedDigit(n)
		want(t, fmt.Sprint("ChangedDigit ", n), 1<<digit, ok, g^next)
		for d := range 51 {
			times, ok := impl.TimesChanged(n, n+1, d)
			wanted := 0
			if d == digit {
				wanted = 1
			}
			want(t, fmt.Sprint("TimesChanged ", n, n+1, d), times, ok, wanted)
		}
	}
}

func TestReflectedExamples(t *testing.T) {
	for n, g := range []int{0, 1, 3, 2, 6} {
		got, ok := impl.ReflectedOf(n)
		want(t, "ReflectedOf", got, ok, g)
	}
	digit, ok := impl.ChangedDigit(3)
	want(t, "ChangedDigit 3", digit, ok, 2)
	s, ok := impl.ReflectedText(6, 4)
	want(t, "ReflectedText 6 4", s, ok, "0101")
}

func TestReflectedLimits(t *testing.T) {
	g, ok := impl.ReflectedOf(most)
	want(t, "ReflectedOf most", g, ok, 673218795520)
	n, ok := impl.NumberOfReflected(most)
	want(t, "NumberOfReflected most", n, ok, 758477365247)
	n, ok = impl.NumberOfReflected(1 << 39)
	want(t, "NumberOfReflected 1 << 39", n, ok, 1<<40-1)
	n, ok = impl.PlainSum(1<<39, 1<<39-1)
	want(t, "PlainSum", n, ok, 1<<40-1)
	n, ok = impl.PlainSum(most, most)
	want(t, "PlainSum", n, ok, 0)
	n, ok = impl.PlainSum(most, 0)
	want(t, "PlainSum", n, ok, most)
	n, ok = impl.ChangedDigit(most)
	want(t, "ChangedDigit most", n, ok, 0)
	n, ok = impl.ChangedDigit(1<<39 - 1)
	want(t, "ChangedDigit", n, ok, 39)
}

func TestReflectedNumbersBeyondLimits(t *testing.T) {
	for _, n := range noReflectables {
		what := fmt.Sprint(" ", n)
		got, ok := impl.ReflectedOf(n)
		wantFail(t, "ReflectedOf"+what, got, ok)
		got, ok = impl.NumberOfReflected(n)
		wantFail(t, "NumberOfReflected"+what, got, ok)
		got, ok = impl.ChangedDigit(n)
		wantFail(t, "ChangedDigit"+what, got, ok)
		for _, good := range []int{0, 5, most} {
			got, ok = impl.PlainSum(n, good)
			wantFail(t, "PlainSum"+what, got, ok)
			got, ok = impl.PlainSum(good, n)
			wantFail(t, "PlainSum"+what, got, ok)
			got, ok = impl.TimesChanged(n, good, 0)
			wantFail(t, "TimesChanged"+what, got, ok)
			got, ok = impl.TimesChanged(good, n, 0)
			wantFail(t, "TimesChanged"+what, got, ok)
		}
		s, ok := impl.ReflectedText(n, 40)
		wantFail(t, "ReflectedText"+what, s, ok)
	}
}

func TestPlainSums(t *testing.T) {
	for a := range 70 {
		for b := range 70 {
			wanted := 0
			for power := 1; power < 128; power *= 2 {
				if a/power%2 != b/power%2 {
					wanted += power
				}
			}
			got, ok := impl.PlainSum(a, b)
			want(t, fmt.Sprint("PlainSum ", a, b), got, ok, wanted)
		}
	}
}

func TestTimesChangedFromOneToOther(t *testing.T) {
	list := reflectedList(6)
	for from := range list {
		times := make([]int, 51)
		for to := from; to < len(list); to++ {
			if to > from {
				times[bits.Len(uint(list[to]^list[to-1]))-1]++
			}
			for digit, wanted := range times {
				got, ok := impl.TimesChanged(from, to, digit)
				want(t, fmt.Sprint("TimesChanged ", from, to, digit), got, ok, wanted)
			}
		}
		for to := range from {
			got, ok := impl.TimesChanged(from, to, 0)
			wantFail(t, fmt.Sprint("TimesChanged ", from, to), got, ok)
		}
	}
}

func TestTimesChangedLimits(t *testing.T) {
	for digit := range 51 {
		wanted := 0
		if digit < 40 {
			// Of 2^digit, 2^(digit+1), .. each odd multiple up to most.
			wanted = (most/(1<<digit) + 1) / 2
		}
		got, ok := impl.TimesChanged(0, most, digit)
		want(t, fmt.Sprint("TimesChanged 0 most ", digit), got, ok, wanted)
		got, ok = impl.TimesChanged(most, most, digit)
		want(t, fmt.Sprint("TimesChanged most most ", digit), got, ok, 0)
	}
	for _, digit := range []int{math.MinInt, -64, -1, 51, 52, 63, 64, 65, math.MaxInt} {
		got, ok := impl.TimesChanged(0, 5, digit)
		wantFail(t, fmt.Sprint("TimesChanged 0 5 ", digit), got, ok)
	}
	got, ok := impl.TimesChanged(most, most-1, 0)
	wantFail(t, "TimesChanged most most-1", got, ok)
}

func TestReflectedTexts(t *testing.T) {
	for n, g := range reflectedList(9) {
		for digits := 1; digits <= 40; digits++ {
			what := fmt.Sprint("ReflectedText ", n, " ", digits)
			s, ok := impl.ReflectedText(n, digits)
			if digits < bits.Len(uint(g)) {
				wantFail(t, what, s, ok)
				continue
			}
			want(t, what, s, ok, digitText(g, digits))
			back, ok := impl.RankOfText(s)
			want(t, "RankOfText "+s, back, ok, n)
		}
	}
	for _, n := range numbersUpToMost() {
		s, ok := impl.ReflectedText(n, 40)
		want(t, fmt.Sprint("ReflectedText ", n), s, ok, digitText(n^n/2, 40))
		back, ok := impl.RankOfText(s)
		want(t, "RankOfText "+s, back, ok, n)
	}
}

func TestReflectedTextDigitCounts(t *testing.T) {
	for _, digits := range []int{math.MinInt, -40, -1, 0, 41, 42, 50, 64, math.MaxInt} {
		for _, n := range []int{0, 1, most} {
			s, ok := impl.ReflectedText(n, digits)
			wantFail(t, fmt.Sprint("ReflectedText ", n, " ", digits), s, ok)
		}
	}
	s, ok := impl.ReflectedText(0, 1)
	want(t, "ReflectedText 0 1", s, ok, "0")
	s, ok = impl.ReflectedText(0, 40)
	want(t, "ReflectedText 0 40", s, ok, strings.Repeat("0", 40))
	s, ok = impl.ReflectedText(most, 39)
	wantFail(t, "ReflectedText most 39", s, ok)
}

func TestRankOfTextLimits(t *testing.T) {
	n, ok := impl.RankOfText("1" + strings.Repeat("0", 39))
	want(t, "RankOfText greatest", n, ok, 1<<40-1)
	n, ok = impl.RankOfText(strings.Repeat("1", 40))
	want(t, "RankOfText 11..1", n, ok, 733007751850)
	n, ok = impl.RankOfText(strings.Repeat("0", 40))
	want(t, "RankOfText 00..0", n, ok, 0)
	for _, s := range []string{
		"", " ", "2", "-1", "+1", "01 ", " 01", "0x1", "a", "1_0", "\x00", "1\xff", "1\n", "/", ":", "０",
		strings.Repeat("0", 41), strings.Repeat("1", 41), strings.Repeat("0", 5000), strings.Repeat("0", 39) + "2", "2" + strings.Repeat("0", 39),
	} {
		n, ok := impl.RankOfText(s)
		wantFail(t, fmt.Sprintf("RankOfText %.50q", s), n, ok)
	}
}

func TestSets(t *testing.T) {
	list := reflectedList(10)
	for size := 1; size <= 10; size++ {
		for rank := range 1 << size {
			var set []int
			for k := range size {
				if list[rank]>>k%2 == 1 {
					set = append(set, k)
				}
			}
			got, ok := impl.SetAt(size, rank)
			wantList(t, fmt.Sprint("SetAt ", size, rank), got, ok, set)
			back, ok := impl.RankOfSet(size, set)
			want(t, fmt.Sprint("RankOfSet ", size, set), back, ok, rank)
		}
	}
}

func TestSetLimits(t *testing.T) {
	all := make([]int, 20)
	for i := range all {
		all[i] = i
	}
	for size := 1; size <= 20; size++ {
		set, ok := impl.SetAt(size, 0)
		wantList(t, fmt.Sprint("SetAt ", size, " 0"), set, ok, nil)
		n, ok := impl.RankOfSet(size, nil)
		want(t, fmt.Sprint("RankOfSet ", size, " of none"), n, ok, 0)
		set, ok = impl.SetAt(size, 1<<size-1)
		wantList(t, fmt.Sprint("SetAt ", size, " last"), set, ok, []int{size - 1})
		n, ok = impl.RankOfSet(size, []int{size - 1})
		want(t, fmt.Sprint("RankOfSet ", size, " last"), n, ok, 1<<size-1)
		n, ok = impl.RankOfSet(size, all[:size])
		clear, _ := impl.MovesToClear(size)
		want(t, fmt.Sprint("RankOfSet ", size, " of all"), n, ok, clear)
		for _, rank := range []int{math.MinInt, -1, 1 << size, 1<<size + 1, 1 << 32, 1 << 62, math.MaxInt} {
			set, ok = impl.SetAt(size, rank)
			wantFailList(t, fmt.Sprint("SetAt ", size, rank), set, ok)
		}
	}
}

var noSetSizes = []int{math.MinInt, -20, -1, 0, 21, 22, 40, 41, 63, 64, 65, math.MaxInt}

func TestSetAndChoiceSizesThatThereAreNot(t *testing.T) {
	for _, size := range noSetSizes {
		what := fmt.Sprint(" ", size)
		list, ok := impl.SetAt(size, 0)
		wantFailList(t, "SetAt"+what, list, ok)
		for _, good := range [][]int{nil, {0}, {0, 1}} {
			n, ok := impl.RankOfSet(size, good)
			wantFail(t, "RankOfSet"+what, n, ok)
			n, ok = impl.RankOfChoice(size, good)
			wantFail(t, "RankOfChoice"+what, n, ok)
		}
		for _, count := range []int{-1, 0, 1, size} {
			list, ok = impl.ChoiceAt(size, count, 0)
			wantFailList(t, "ChoiceAt"+what, list, ok)
			n, ok := impl.CountChoices(size, count)
			wantFail(t, "CountChoices"+what, n, ok)
		}
	}
}

func TestListsThatAreNoSets(t *testing.T) {
	for _, c := range []struct {
		size int
		list []int
	}{
		{4, []int{-1}}, {4, []int{4}}, {4, []int{0, 4}}, {4, []int{-1, 0}}, {4, []int{1, 1}}, {4, []int{2, 1}}, {4, []int{0, 1, 0}},
		{4, []int{0, 1, 2, 3, 4}}, {4, []int{0, 0, 1, 2, 3}}, {1, []int{1}}, {1, []int{0, 0}}, {20, []int{20}}, {20, []int{19, 19}},
		{4, []int{math.MinInt}}, {4, []int{math.MaxInt}}, {4, []int{0, math.MaxInt, 1}}, {4, []int{math.MinInt, math.MaxInt}}, {20, make([]int, 3000)},
	} {
		what := fmt.Sprintf(" %d %.40s", c.size, fmt.Sprint(c.list))
		n, ok := impl.RankOfSet(c.size, c.list)
		wantFail(t, "RankOfSet"+what, n, ok)
		n, ok = impl.RankOfChoice(c.size, c.list)
		wantFail(t, "RankOfChoice"+what, n, ok)
	}
}

func TestChoices(t *testing.T) {
	for size := 1; size <= 11; size++ {
		for count := range size + 1 {
			checkChoices(t, size, count)
		}
	}
	for _, count := range []int{0, 1, 2, 3, 18, 19, 20} {
		checkChoices(t, 20, count)
	}
}

func checkChoices(t *testing.T, size, count int) {
	t.Helper()
	list := choiceList(size, count)
	n, ok := impl.CountChoices(size, count)
	want(t, fmt.Sprint("CountChoices ", size, " ", count), n, ok, len(list))
	for rank, wanted := range list {
		got, ok := impl.ChoiceAt(size, count, rank)
		wantList(t, fmt.Sprint("ChoiceAt ", size, count, rank), got, ok, wanted)
		back, ok := impl.RankOfChoice(size, wanted)
		want(t, fmt.Sprint("RankOfChoice ", size, wanted), back, ok, rank)
	}
	for _, rank := range []int{math.MinInt, -1, len(list), len(list) + 1, math.MaxInt} {
		got, ok := impl.ChoiceAt(size, count, rank)
		wantFailList(t, fmt.Sprint("ChoiceAt ", size, count, rank), got, ok)
	}
}

func TestChoicesOfExample(t *testing.T) {
	for rank, wanted := range [][]int{{0, 1}, {1, 2}, {0, 2}, {2, 3}, {1, 3}, {0, 3}} {
		got, ok := impl.ChoiceAt(4, 2, rank)
		wantList(t, "ChoiceAt 4 2", got, ok, wanted)
	}
}

// From each choice to the next one, one number is exchanged for another one.
func TestChoicesExchangeOne(t *testing.T) {
	for _, c := range [][2]int{{20, 4}, {18, 9}, {20, 10}} {
		n, _ := impl.CountChoices(c[0], c[1])
		last := 0
		for rank := 0; rank < n; rank += 1 {
			if rank > 3000 && rank < n-3000 {
				rank = n - 3000
				last = 0
			}
			list, ok := impl.ChoiceAt(c[0], c[1], rank)
			back, fine := impl.RankOfChoice(c[0], list)
			now := 0
			for _, k := range list {
				now |= 1 << k
			}
			if !ok || !fine || back != rank || bits.OnesCount(uint(now)) != c[1] || last != 0 && bits.OnesCount(uint(now^last)) != 2 {
				t.Fatalf("ChoiceAt %v %d: %v, its rank %d", c, rank, list, back)
			}
			last = now
		}
	}
}

func TestCountChoices(t *testing.T) {
	for size := 1; size <= 20; size++ {
		for count := range size + 1 {
			n, ok := impl.CountChoices(size, count)
			want(t, fmt.Sprint("CountChoices ", size, " ", count), n, ok, pascal(size, count))
		}
		for _, count := range []int{math.MinInt, -2, -1, size + 1, size + 2, 64, math.MaxInt} {
			n, ok := impl.CountChoices(size, count)
			wantFail(t, fmt.Sprint("CountChoices ", size, " ", count), n, ok)
			list, ok := impl.ChoiceAt(size, count, 0)
			wantFailList(t, fmt.Sprint("ChoiceAt ", size, " ", count), list, ok)
		}
	}
}

func TestSwaps(t *testing.T) {
	for size := 1; size <= 7; size++ {
		list := swapList(size)
		for rank, wanted := range list {
			got, ok := impl.SwappedAt(size, rank)
			wantList(t, fmt.Sprint("SwappedAt ", size, rank), got, ok, wanted)
			back, ok := impl.RankOfSwapped(wanted)
			want(t, fmt.Sprint("RankOfSwapped ", wanted), back, ok, rank)
			what := fmt.Sprint("SwapPlace ", size, " ", rank)
			place, ok := impl.SwapPlace(size, rank)
			if rank == len(list)-1 {
				wantFail(t, what, place, ok)
				continue
			}
			if !ok || place < 0 || place+1 >= size {
				t.Errorf("%s: %d, %v", what, place, ok)
				continue
			}
			next := slices.Clone(wanted)
			next[place], next[place+1] = next[place+1], next[place]
			if !slices.Equal(next, list[rank+1]) {
				t.Errorf("%s: %d, from %v to %v", what, place, wanted, list[rank+1])
			}
		}
		for _, rank := range []int{math.MinInt, -1, len(list), len(list) + 1, math.MaxInt} {
			got, ok := impl.SwappedAt(size, rank)
			wantFailList(t, fmt.Sprint("SwappedAt ", size, rank), got, ok)
			place, ok := impl.SwapPlace(size, rank)
			wantFail(t, fmt.Sprint("SwapPlace ", size, rank), place, ok)
		}
	}
}

func TestSwapsOfExample(t *testing.T) {
	for rank, wanted := range [][]int{{0, 1, 2}, {0, 2, 1}, {2, 0, 1}, {2, 1, 0}, {1, 2, 0}, {1, 0, 2}} {
		got, ok := impl.SwappedAt(3, rank)
		wantList(t, "SwappedAt 3", got, ok, wanted)
	}
	place, ok := impl.SwapPlace(3, 1)
	want(t, "SwapPlace 3 1", place, ok, 0)
	place, ok = impl.SwapPlace(3, 0)
	want(t, "SwapPlace 3 0", place, ok, 1)
	place, ok = impl.SwapPlace(3, 5)
	wantFail(t, "SwapPlace 3 5", place, ok)
}

func TestSwapsOfMost(t *testing.T) {
	lists := 3628800
	for rank := 0; rank < lists; rank += 9973 {
		list, ok := impl.SwappedAt(10, rank)
		back, fine := impl.RankOfSwapped(list)
		if !ok || !fine || back != rank {
			t.Fatalf("SwappedAt 10 %d: %v, its rank %d", rank, list, back)
		}
		place, ok := impl.SwapPlace(10, rank)
		next, _ := impl.SwappedAt(10, rank+1)
		if !ok || place < 0 || place > 8 {
			t.Fatalf("SwapPlace 10 %d: %d", rank, place)
		}
		list[place], list[place+1] = list[place+1], list[place]
		wantList(t, fmt.Sprint("SwapPlace 10 ", rank), list, ok, next)
	}
	last, ok := impl.SwappedAt(10, lists-1)
	wantList(t, "SwappedAt 10 last", last, ok, []int{1, 0, 2, 3, 4, 5, 6, 7, 8, 9})
	n, ok := impl.RankOfSwapped([]int{1, 0, 2, 3, 4, 5, 6, 7, 8, 9})
	want(t, "RankOfSwapped last", n, ok, lists-1)
	place, ok := impl.SwapPlace(10, lists-1)
	wantFail(t, "SwapPlace 10 last", place, ok)
	place, ok = impl.SwapPlace(10, lists-2)
	want(t, "SwapPlace 10 last but one", place, ok, 8)
	list, ok := impl.SwappedAt(10, lists)
	wantFailList(t, "SwappedAt 10 beyond", list, ok)
	list, ok = impl.SwappedAt(1, 0)
	wantList(t, "SwappedAt 1 0", list, ok, []int{0})
	place, ok = impl.SwapPlace(1, 0)
	wantFail(t, "SwapPlace 1 0", place, ok)
	for _, size := range []int{math.MinInt, -10, -1, 0, 11, 12, 20, 64, math.MaxInt} {
		list, ok := impl.SwappedAt(size, 0)
		wantFailList(t, fmt.Sprint("SwappedAt ", size), list, ok)
		place, ok := impl.SwapPlace(size, 0)
		wantFail(t, fmt.Sprint("SwapPlace ", size), place, ok)
	}
}

func TestListsThatAreNoOrders(t *testing.T) {
	for _, list := range [][]int{
		nil, {}, {1}, {-1}, {0, 0}, {1, 1}, {0, 2}, {1, 2}, {0, 1, 3}, {0, 1, 1}, {2, 1, 2}, {0, -1}, {math.MinInt, 0}, {0, math.MaxInt},
		{0, 1, 2, 3, 4, 5, 6, 7, 8, 9, 10}, {10, 0, 1, 2, 3, 4, 5, 6, 7, 8, 9}, {1, 2, 3, 4, 5, 6, 7, 8, 9, 10}, make([]int, 5000),
	} {
		n, ok := impl.RankOfSwapped(list)
		wantFail(t, fmt.Sprintf("RankOfSwapped %.40s", fmt.Sprint(list)), n, ok)
	}
}

func TestMixedDigits(t *testing.T) {
	for _, limits := range [][]int{
		{1}, {2}, {20}, {2, 3}, {3, 2}, {1, 1}, {1, 5}, {5, 1}, {2, 2, 2, 2}, {3, 3, 3}, {4, 1, 3, 2}, {2, 5, 4, 3}, {20, 20},
		{1, 1, 1, 1, 1, 1, 1, 1}, {2, 2, 2, 2, 2, 2, 2, 2}, {1, 3, 2, 1, 2, 3, 1, 4},
	} {
		list := mixedList(limits)
		for rank, wanted := range list {
			got, ok := impl.MixedAt(limits, rank)
			wantList(t, fmt.Sprint("MixedAt ", limits, rank), got, ok, wanted)
			back, ok := impl.RankOfMixed(limits, wanted)
			want(t, fmt.Sprint("RankOfMixed ", limits, wanted), back, ok, rank)
		}
		for _, rank := range []int{math.MinInt, -1, len(list), len(list) + 1, math.MaxInt} {
			got, ok := impl.MixedAt(limits, rank)
			wantFailList(t, fmt.Sprint("MixedAt ", limits, rank), got, ok)
		}
		for i := range limits {
			for _, digit := range []int{math.MinInt, -1, limits[i], limits[i] + 1, math.MaxInt} {
				wrong := slices.Clone(list[0])
				wrong[i] = digit
				n, ok := impl.RankOfMixed(limits, wrong)
				wantFail(t, fmt.Sprint("RankOfMixed ", limits, wrong), n, ok)
			}
		}
	}
}

func TestMixedDigitsOfMost(t *testing.T) {
	limits := []int{20, 20, 20, 20, 20, 20, 20, 20}
	lists := 25600000000
	for _, rank := range []int{0, 1, 19, 20, 399, 400, 123456789, 9876543210, lists - 2, lists - 1} {
		list, ok := impl.MixedAt(limits, rank)
		n, fine := impl.RankOfMixed(limits, list)
		want(t, fmt.Sprint("RankOfMixed of MixedAt ", rank), n, ok && fine, rank)
	}
	last, ok := impl.MixedAt(limits, lists-1)
	wantList(t, "MixedAt last", last, ok, []int{19, 0, 0, 0, 0, 0, 0, 0})
	list, ok := impl.MixedAt(limits, lists)
	wantFailList(t, "MixedAt beyond", list, ok)
}

func TestListsThatAreNoLimits(t *testing.T) {
	for _, limits := range [][]int{
		nil, {}, {0}, {-1}, {21}, {2, 0}, {0, 2}, {2, 21}, {21, 2}, {2, -3}, {math.MinInt}, {math.MaxInt}, {math.MaxInt, 2},
		{1, 1, 1, 1, 1, 1, 1, 1, 1}, {2, 2, 2, 2, 2, 2, 2, 2, 2}, make([]int, 3000),
	} {
		what := fmt.Sprintf(" %.40s", fmt.Sprint(limits))
		list, ok := impl.MixedAt(limits, 0)
		wantFailList(t, "MixedAt"+what, list, ok)
		n, ok := impl.RankOfMixed(limits, make([]int, len(limits)))
		wantFail(t, "RankOfMixed"+what, n, ok)
	}
	for _, list := range [][]int{nil, {0}, {0, 0, 0}, make([]int, 3000)} {
		n, ok := impl.RankOfMixed([]int{2, 3}, list)
		wantFail(t, fmt.Sprintf("RankOfMixed of %d digits", len(list)), n, ok)
	}
}
