package tests

import (
	"fmt"
	"math"
	"math/big"
	"math/rand"
	"slices"
	"strings"
	"testing"

	"loop.example/g01314/impl"
)

// Promise 4: fewest slides lead where they are told, and allowed states are
// those that no block forbids.

// boltsOfText reads a BoltsText of single digits by itself.
func boltsOfText(s string) impl.Bolts {
	parts := strings.Split(s, ";")
	var b impl.Bolts
	for _, sign := range parts[0] {
		b.Places = append(b.Places, int(sign-'0'))
	}
	for _, part := range parts[1:] {
		b.Blocks = append(b.Blocks, impl.Block{A: int(part[0] - '0'), I: int(part[1] - '0'), B: int(part[2] - '0'), J: int(part[3] - '0')})
	}
	return b
}

// fewStates are texts of bolts of few states, with parts, repeated blocks and no allowed state among them.
func fewStates() []string {
	return []string{
		"2", "3", "5", "22", "25", "52", "55", "222", "333", "2222", "22222", "222222",
		"33;0111", "222;0121", "22;0011", "33;0111;0111", "33;1101;0111;0010", "22;0010;0011;0110;0111",
		"22;0011;0110", "33;0110;0111;0112", "33;0110;0111;0112;1100;1101;1102", "222;0010;0011;0020;0021",
		"222;0010;0011;2000;2001;1120", "25;0010;0111;0012;0113;0014", "55;1001;1101;1201;1301;1403;1303;1203;1103",
		"2222;0121;0131;1131", "222222;0121;0131;1131;0141;1141;2141;0151;1151;2151;3151",
	}
}

// mixedBolts are bolts of at most so many states with blocks of all sorts, the same ones in each run.
func mixedBolts(count, states, blocks int) []impl.Bolts {
	random := rand.New(rand.NewSource(4))
	var list []impl.Bolts
	for len(list) < count {
		var b impl.Bolts
		all := 1
		for range 2 + random.Intn(5) {
			b.Places = append(b.Places, 2+random.Intn(4))
			all *= b.Places[len(b.Places)-1]
		}
		if all > states {
			continue
		}
		for range random.Intn(blocks + 1) {
			b.Blocks = append(b.Blocks, mixedBlock(random, b.Places))
		}
		list = append(list, b)
	}
	return list
}

func mixedBlock(random *rand.Rand, counts []int) impl.Block {
	bolts := random.Perm(len(counts))
	return impl.Block{A: bolts[0], I: random.Intn(counts[bolts[0]]), B: bolts[1], J: random.Intn(counts[bolts[1]])}
}

func boltsOfFewStates() []impl.Bolts {
	list := mixedBolts(60, 32, 9)
	for _, s := range fewStates() {
		list = append(list, boltsOfText(s))
	}
	return list
}

// boltsOfManyStates have up to MaxBolted states, and up to MaxBlocks blocks.
func boltsOfManyStates() []impl.Bolts {
	list := mixedBolts(6, 1000, 12)
	for _, s := range []string{"555222", "55542", "333333", "5555;0223;2433;2213;2332;1432;0221;2232;1002;0312", windingBolts} {
		list = append(list, boltsOfText(s))
	}
	list = append(list, boltsWithMostBlocks())
	return list
}

func boltsWithMostBlocks() impl.Bolts {
	random := rand.New(rand.NewSource(40))
	b := impl.Bolts{Places: []int{2, 5, 2, 5, 2, 5}}
	for len(b.Blocks) < 40 {
		b.Blocks = append(b.Blocks, mixedBlock(random, b.Places))
	}
	return b
}

// windingBolts have ways of 86 slides, in more ways than an int can tell.
const windingBolts = "55542;3222;2431;1302;1000;4102;1233;2201;3102;3103;0411;0223;0231;2002;2213;0022;1103;2204;1132;" +
	"1202;1022;1430;1233;3140;3201;1422;1302;2131;2241;3140;1103;4122;2211"

// crookedBolts have states in a few more ways than are told, and in a few less.
const crookedBolts = "55542;0211;1201;3202;2314;0412;3112;2002;3102;0224;0021;1232;1322;2103;3312;0223;2131;3021;" +
	"1221;1002;4002;1202;4121;1140;3302;2132"

// nameOf tells of bolts, of which there may be very many, by the first few.
func nameOf(b impl.Bolts) string {
	return fmt.Sprint(" ", b.Places[:min(len(b.Places), 8)], b.Blocks[:min(len(b.Blocks), 5)])
}

func TestChapter4LimitsAsTold(t *testing.T) {
	if impl.MaxBolts != 6 || impl.MaxPlaces != 5 || impl.MaxBlocks != 40 || impl.MaxBolted != 1000 {
		t.Error("limits", impl.MaxBolts, impl.MaxPlaces, impl.MaxBlocks, impl.MaxBolted)
	}
}

func TestAllowedStatesAgainstRules(t *testing.T) {
	for _, b := range append(boltsOfFewStates(), boltsOfManyStates()...) {
		what := nameOf(b)
		if !impl.AreBolts(b) {
			t.Errorf("AreBolts%s is false", what)
		}
		allowed := ruleAllowedStates(b)
		states, ok := impl.AllowedStates(b)
		wantList(t, "AllowedStates"+what, states, ok, allowed)
		n, ok := impl.CountAllowed(b)
		want(t, "CountAllowed"+what, n, ok, len(allowed))
		for _, s := range digitTexts(b.Places) {
			fine, ok := impl.IsAllowed(b, s)
			want(t, "IsAllowed"+what+" "+s, fine, ok, ruleAllowed(b, s))
			if !fine {
				failsForStates(t, b, s)
			}
		}
		parts := map[string]bool{}
		for _, first := range rulePartOf(b) {
			parts[first] = true
		}
		n, ok = impl.PartsOfBolts(b)
		want(t, "PartsOfBolts"+what, n, ok, len(parts))
		needless, ok := impl.NeedlessBlocks(b)
		wantList(t, "NeedlessBlocks"+what, needless, ok, ruleNeedless(b))
	}
}

func TestSlidesAgainstRules(t *testing.T) {
	for _, b := range append(boltsOfFewStates(), boltsOfManyStates()[:4]...) {
		for i, s := range ruleAllowedStates(b) {
			if i%7 == 0 || i < 40 {
				checkSlides(t, b, s)
			}
		}
	}
}

func checkSlides(t *testing.T, b impl.Bolts, s string) {
	t.Helper()
	what := nameOf(b) + " " + s
	slides := ruleSlides(b, s)
	list, ok := impl.SlidesOf(b, s)
	wantList(t, "SlidesOf"+what, list, ok, slides)
	for bolt := -1; bolt <= 7; bolt++ {
		for by := -3; by <= 3; by++ {
			m := impl.Slide{Bolt: bolt, By: by}
			next, ok := impl.SlideBolt(b, s, m)
			if !slices.Contains(slides, m) {
				wantFail(t, fmt.Sprint("SlideBolt", what, m), next, ok)
				continue
			}
			want(t, fmt.Sprint("SlideBolt", what, m), next, ok, ruleSlid(s, m))
			back, ok := impl.SlideBolt(b, next, impl.Slide{Bolt: bolt, By: -by})
			want(t, fmt.Sprint("SlideBolt", what, m, " and back"), back, ok, s)
		}
	}
}

func TestSlidesThatAreNone(t *testing.T) {
	b := boltsOfText("33;0111")
	for _, m := range []impl.Slide{
		{}, {Bolt: 0, By: 0}, {Bolt: 1, By: 2}, {Bolt: 1, By: -2}, {Bolt: 0, By: -1}, {Bolt: -1, By: 1}, {Bolt: 2, By: 1}, {Bolt: 2, By: 0},
		{Bolt: 6, By: 1}, {Bolt: 0, By: math.MinInt}, {Bolt: 0, By: math.MaxInt}, {Bolt: math.MinInt, By: 1}, {Bolt: math.MaxInt, By: 1},
		{Bolt: 0, By: 1}, // into a state that is not allowed
	} {
		next, ok := impl.SlideBolt(b, "01", m)
		wantFail(t, fmt.Sprint("SlideBolt 01", m), next, ok)
	}
	next, ok := impl.SlideBolt(b, "20", impl.Slide{Bolt: 0, By: 1})
	wantFail(t, "SlideBolt 20 beyond the last place", next, ok)
}

func TestTwoStatesOfBoltsAgainstAllLists(t *testing.T) {
	for _, b := range boltsOfFewStates() {
		allowed := ruleAllowedStates(b)
		for _, from := range allowed {
			lists := slideLists(b, from)
			n, ok := impl.CountSlid(b, from)
			want(t, "CountSlid"+nameOf(b)+" "+from, n, ok, len(lists))
			for _, to := range allowed {
				ways, reached := lists[to]
				if !reached {
					checkNoWay(t, b, from, to)
					continue
				}
				checkSlideWay(t, b, from, to, slidWays{first: ways[0], count: big.NewInt(int64(len(ways)))})
			}
		}
	}
}

func TestTwoStatesOfManyAgainstSearch(t *testing.T) {
	for _, b := range boltsOfManyStates() {
		allowed := ruleAllowedStates(b)
		for i := 0; i < len(allowed); i += 1 + len(allowed)/4 {
			ways := slideWays(b, allowed[i])
			n, ok := impl.CountSlid(b, allowed[i])
			want(t, "CountSlid"+nameOf(b)+" "+allowed[i], n, ok, len(ways))
			for j := i % 29; j < len(allowed); j += 29 {
				if way, reached := ways[allowed[j]]; reached {
					checkSlideWay(t, b, allowed[i], allowed[j], way)
				} else {
					checkNoWay(t, b, allowed[i], allowed[j])
				}
			}
		}
	}
}

// checkSlideWay compares what is told of two states of one part with the ways there are.
func checkSlideWay(t *testing.T, b impl.Bolts, from, to string, ways slidWays) {
	t.Helper()
	what := nameOf(b) + " " + from + " " + to
	n, ok := impl.FewestSlides(b, from, to)
	want(t, "FewestSlides"+what, n, ok, len(ways.first))
	list, ok := impl.FirstSlides(b, from, to)
	wantList(t, "FirstSlides"+what, list, ok, ways.first)
	n, ok = impl.CountSlideWays(b, from, to)
	if ways.count.Cmp(big.NewInt(1000000000000000)) > 0 {
		wantFail(t, "CountSlideWays"+what, n, ok)
	} else {
		want(t, "CountSlideWays"+what, n, ok, int(ways.count.Int64()))
	}
	at := from
	for _, m := range list {
		at, ok = impl.SlideBolt(b, at, m)
		if !ok {
			t.Errorf("FirstSlides%s: %v cannot be made", what, m)
			return
		}
	}
	want(t, "SlideBolt all along"+what, at, ok, to)
}

// checkNoWay checks two allowed states of different parts.
func checkNoWay(t *testing.T, b impl.Bolts, from, to string) {
	t.Helper()
	what := nameOf(b) + " " + from + " " + to
	n, ok := impl.FewestSlides(b, from, to)
	wantFail(t, "FewestSlides"+what, n, ok)
	list, ok := impl.FirstSlides(b, from, to)
	wantFailList(t, "FirstSlides"+what, list, ok)
	n, ok = impl.CountSlideWays(b, from, to)
	want(t, "CountSlideWays"+what, n, ok, 0)
}

func TestFarthestSlidAgainstSearch(t *testing.T) {
	for _, b := range boltsOfFewStates() {
		for _, s := range ruleAllowedStates(b) {
			checkFarthestSlid(t, b, s)
		}
	}
	for _, b := range boltsOfManyStates() {
		allowed := ruleAllowedStates(b)
		for i := 0; i < len(allowed); i += 1 + len(allowed)/5 {
			checkFarthestSlid(t, b, allowed[i])
		}
	}
}

func checkFarthestSlid(t *testing.T, b impl.Bolts, s string) {
	t.Helper()
	far, most := farthestOf(slideWays(b, s))
	state, n, ok := impl.FarthestSlid(b, s)
	want(t, "FarthestSlid"+nameOf(b)+" "+s, state, ok, far)
	want(t, "FarthestSlid"+nameOf(b)+" "+s, n, ok, most)
}

// Of several states that are as far the first one is told, and a state from
// which nothing can slide is the farthest one from itself.
func TestFarthestSlidOfSeveral(t *testing.T) {
	for _, c := range []struct {
		bolts string
		s     string
		far   string
		most  int
	}{
		{"5", "2", "0", 2},
		{"33", "11", "00", 2},
		{"33", "12", "00", 3},
		{"22;0011;0110", "00", "00", 0},
		{"22;0011;0110", "11", "11", 0},
		{"33;0111", "00", "22", 4},
		{"33;0110;0111;0112", "21", "20", 1},
	} {
		state, n, ok := impl.FarthestSlid(boltsOfText(c.bolts), c.s)
		want(t, "FarthestSlid "+c.bolts+" "+c.s, state, ok, c.far)
		want(t, "FarthestSlid "+c.bolts+" "+c.s, n, ok, c.most)
	}
}

func TestStatesOfBoltsThatAreTheSame(t *testing.T) {
	for _, b := range append(boltsOfFewStates(), boltsOfManyStates()...) {
		if allowed := ruleAllowedStates(b); len(allowed) > 0 {
			s := allowed[len(allowed)/2]
			checkSlideWay(t, b, s, s, slidWays{count: big.NewInt(1)})
		}
	}
}

func TestOneBolt(t *testing.T) {
	b := boltsOfText("5")
	states, ok := impl.AllowedStates(b)
	wantList(t, "AllowedStates 5", states, ok, []string{"0", "1", "2", "3", "4"})
	list, ok := impl.FirstSlides(b, "3", "0")
	wantList(t, "FirstSlides 5 3 0", list, ok, slices.Repeat([]impl.Slide{{Bolt: 0, By: -1}}, 3))
	list, ok = impl.SlidesOf(b, "2")
	wantList(t, "SlidesOf 5 2", list, ok, []impl.Slide{{Bolt: 0, By: 1}, {Bolt: 0, By: -1}})
	n, ok := impl.PartsOfBolts(b)
	want(t, "PartsOfBolts 5", n, ok, 1)
	needless, ok := impl.NeedlessBlocks(b)
	wantList(t, "NeedlessBlocks 5", needless, ok, nil)
	for _, block := range []impl.Block{{}, {A: 0, I: 0, B: 0, J: 1}, {A: 0, I: 0, B: 1, J: 0}} {
		more, ok := impl.AddBlock(b, block)
		wantNoBolts(t, fmt.Sprint("AddBlock 5", block), more, ok)
	}
}

func TestBoltsOfWhichNoStateIsAllowed(t *testing.T) {
	b := boltsOfText("22;0010;0011;0110;0111")
	states, ok := impl.AllowedStates(b)
	wantList(t, "AllowedStates", states, ok, nil)
	n, ok := impl.CountAllowed(b)
	want(t, "CountAllowed", n, ok, 0)
	n, ok = impl.PartsOfBolts(b)
	want(t, "PartsOfBolts", n, ok, 0)
	needless, ok := impl.NeedlessBlocks(b)
	wantList(t, "NeedlessBlocks", needless, ok, nil)
	for _, s := range []string{"00", "01", "10", "11"} {
		fine, ok := impl.IsAllowed(b, s)
		want(t, "IsAllowed "+s, fine, ok, false)
		failsForStates(t, b, s)
	}
}

func TestNeedlessBlocks(t *testing.T) {
	for s, indices := range map[string][]int{
		"33":                                   nil,
		"33;0111":                              nil,
		"33;0111;0111":                         {0, 1},
		"33;0111;1101":                         {0, 1},
		"33;0111;0112;1101":                    {0, 2},
		"222;0010;0011;0020":                   {2},
		"222;0020;0010;0011":                   {0},
		"222;0020;0021;0010;0011":              {0, 1, 2, 3},
		"22;0010;0011;0110;0111;0111":          {3, 4},
		"222;0010;0011;0110;0111;2010":         {4},
		"555222" + strings.Repeat(";0011", 40): firstNumbers(40),
	} {
		needless, ok := impl.NeedlessBlocks(boltsOfText(s))
		wantList(t, "NeedlessBlocks "+s, needless, ok, indices)
	}
}

func firstNumbers(count int) []int {
	var list []int
	for n := range count {
		list = append(list, n)
	}
	return list
}

// gatedBolts have slow bolts of 5, 5 and 3 places that lead along one winding
// row of 35 states, and two fast bolts of 4 and 3 places. Wherever a slow bolt
// is at an odd place, each fast one is at its first place, or each at its last
// one, in turn along the row: between two such states the fast ones have 10
// ways to cross.
func gatedBolts() impl.Bolts {
	b := impl.Bolts{Places: []int{5, 5, 3, 4, 3}}
	except := func(bolt, place, other, free int) {
		for j := range b.Places[other] {
			if j != free {
				b.Blocks = append(b.Blocks, impl.Block{A: bolt, I: place, B: other, J: j})
			}
		}
	}
	for _, gate := range [][2]int{{0, 1}, {1, 1}, {2, 1}} {
		except(gate[0], gate[1], 3, 0)
		except(gate[0], gate[1], 4, 0)
	}
	for _, gate := range [][2]int{{0, 3}, {1, 3}} {
		except(gate[0], gate[1], 3, 3)
		except(gate[0], gate[1], 4, 2)
	}
	except(1, 1, 0, 4)
	except(1, 3, 0, 0)
	except(2, 1, 0, 4)
	except(2, 1, 1, 4)
	// Of 41 blocks, this one is left out as needless: the fast bolts cannot be at both ends.
	b.Blocks = slices.DeleteFunc(b.Blocks, func(block impl.Block) bool { return block == impl.Block{A: 1, I: 1, B: 0, J: 3} })
	return b
}

func TestMostSlideWays(t *testing.T) {
	b := gatedBolts()
	if !impl.AreBolts(b) {
		t.Fatal("no bolts", len(b.Blocks))
	}
	// Over 15 crossings, from the last places of the fast bolts to the first ones.
	n, ok := impl.CountSlideWays(b, "00032", "41200")
	want(t, "CountSlideWays 00032 41200", n, ok, 1000000000000000)
	n, ok = impl.CountSlideWays(b, "41200", "00032")
	want(t, "CountSlideWays 41200 00032", n, ok, 1000000000000000)
	// From there on there are two ways.
	n, ok = impl.CountSlideWays(b, "00032", "40211")
	wantFail(t, "CountSlideWays 00032 40211", n, ok)
	ways := slideWays(b, "00032")
	for to := range ways {
		checkSlideWay(t, b, "00032", to, ways[to])
	}
}

func TestMoreSlideWaysThanAreTold(t *testing.T) {
	crooked := boltsOfText(crookedBolts)
	n, ok := impl.CountSlideWays(crooked, "00201", "33400")
	want(t, "CountSlideWays 00201 33400", n, ok, 985297305600000)
	n, ok = impl.CountSlideWays(crooked, "00311", "32401")
	wantFail(t, "CountSlideWays of 1003887820800000", n, ok)
	winding := boltsOfText(windingBolts)
	ways := slideWays(winding, "01031")
	wide, _ := new(big.Int).SetString("182714754848455065600000", 10)
	if ways["01331"].count.Cmp(wide) != 0 {
		t.Error("ways", ways["01331"].count)
	}
	for to := range ways {
		checkSlideWay(t, winding, "01031", to, ways[to])
	}
}

func TestBarBolts(t *testing.T) {
	for rings, s := range map[int]string{
		2: "22",
		3: "222;0121",
		4: "2222;0121;0131;1131",
		5: "22222;0121;0131;1131;0141;1141;2141",
		6: "222222;0121;0131;1131;0141;1141;2141;0151;1151;2151;3151",
	} {
		what := fmt.Sprint("BarBolts ", rings)
		b, ok := impl.BarBolts(rings)
		wantBolts(t, what, b, ok, boltsOfText(s))
		text, ok := impl.BoltsText(b)
		want(t, what, text, ok, s)
		// At most two bolts, neighbours, are at 1.
		n, ok := impl.CountAllowed(b)
		want(t, what, n, ok, 2*rings)
	}
	for _, rings := range []int{math.MinInt, -6, -1, 0, 1, 7, 8, 12, 20, 64, math.MaxInt} {
		b, ok := impl.BarBolts(rings)
		wantNoBolts(t, fmt.Sprint("BarBolts ", rings), b, ok)
	}
}

func wantBolts(t *testing.T, what string, b impl.Bolts, ok bool, wanted impl.Bolts) {
	t.Helper()
	if !ok || !slices.Equal(b.Places, wanted.Places) || !slices.Equal(b.Blocks, wanted.Blocks) {
		t.Errorf("%s: got %v, %v, want %v, true", what, b, ok, wanted)
	}
}

func wantNoBolts(t *testing.T, what string, b impl.Bolts, ok bool) {
	t.Helper()
	if ok || len(b.Places) != 0 || len(b.Blocks) != 0 {
		t.Errorf("%s: got %v, %v, want a failure", what, b, ok)
	}
}

func TestAddAndDropBlocks(t *testing.T) {
	for _, b := range append(boltsOfFewStates(), boltsOfManyStates()...) {
		what := nameOf(b)
		for k := range b.Blocks {
			less, ok := impl.DropBlock(b, k)
			wanted := impl.Bolts{Places: b.Places, Blocks: slices.Delete(slices.Clone(b.Blocks), k, k+1)}
			wantBolts(t, fmt.Sprint("DropBlock", what, " ", k), less, ok, wanted)
			back, ok := impl.AddBlock(less, b.Blocks[k])
			wanted.Blocks = append(wanted.Blocks, b.Blocks[k])
			wantBolts(t, fmt.Sprint("AddBlock", what, " ", k), back, ok, wanted)
		}
		for _, k := range []int{math.MinInt, -2, -1, len(b.Blocks), len(b.Blocks) + 1, 40, 41, math.MaxInt} {
			less, ok := impl.DropBlock(b, k)
			wantNoBolts(t, fmt.Sprint("DropBlock", what, " ", k), less, ok)
		}
	}
}

func TestMostBlocks(t *testing.T) {
	b := boltsOfText("555222")
	block := impl.Block{A: 0, I: 4, B: 5, J: 1}
	for n := range 40 {
		more, ok := impl.AddBlock(b, block)
		b.Blocks = append(b.Blocks, block)
		wantBolts(t, fmt.Sprint("AddBlock to ", n), more, ok, b)
	}
	more, ok := impl.AddBlock(b, block)
	wantNoBolts(t, "AddBlock to 40", more, ok)
	text, ok := impl.BoltsText(b)
	want(t, "BoltsText of 40 blocks", text, ok, "555222"+strings.Repeat(";0451", 40))
	parsed, ok := impl.ParseBolts(text)
	wantBolts(t, "ParseBolts of 40 blocks", parsed, ok, b)
	parsed, ok = impl.ParseBolts(text + ";0451")
	wantNoBolts(t, "ParseBolts of 41 blocks", parsed, ok)
	parsed, ok = impl.ParseBolts("22" + strings.Repeat(";0011", 41))
	wantNoBolts(t, "ParseBolts of 41 blocks", parsed, ok)
	b.Blocks = append(b.Blocks, block)
	failsForBolts(t, b)
}

// noBlocks are blocks that bolts of 2, 3 and 5 places cannot have.
func noBlocks() []impl.Block {
	return []impl.Block{
		{A: 0, I: 0, B: 0, J: 0}, {A: 0, I: 0, B: 0, J: 1}, {A: 2, I: 4, B: 2, J: 0}, {A: 1, I: 2, B: 1, J: 2},
		{A: -1, I: 0, B: 1, J: 0}, {A: 3, I: 0, B: 1, J: 0}, {A: 0, I: 0, B: -1, J: 0}, {A: 0, I: 0, B: 3, J: 0},
		{A: 0, I: -1, B: 1, J: 0}, {A: 0, I: 2, B: 1, J: 0}, {A: 1, I: 3, B: 0, J: 0}, {A: 2, I: 5, B: 0, J: 0},
		{A: 0, I: 0, B: 1, J: -1}, {A: 1, I: 0, B: 0, J: 2}, {A: 0, I: 0, B: 1, J: 3}, {A: 0, I: 0, B: 2, J: 5},
		{A: 6, I: 0, B: 7, J: 0}, {A: math.MinInt, I: 0, B: 1, J: 0}, {A: math.MaxInt, I: 0, B: 1, J: 0},
		{A: 0, I: math.MinInt, B: 1, J: 0}, {A: 0, I: math.MaxInt, B: 1, J: 0}, {A: 0, I: 0, B: math.MaxInt, J: 0},
		{A: 0, I: 0, B: 1, J: math.MaxInt}, {A: 0, I: 0, B: math.MinInt, J: math.MinInt}, {A: -1, I: -1, B: -1, J: -1},
	}
}

func TestBlocksThatAreNone(t *testing.T) {
	b := impl.Bolts{Places: []int{2, 3, 5}, Blocks: []impl.Block{{A: 0, I: 1, B: 2, J: 4}}}
	for _, block := range noBlocks() {
		more, ok := impl.AddBlock(b, block)
		wantNoBolts(t, fmt.Sprint("AddBlock", block), more, ok)
		failsForBolts(t, impl.Bolts{Places: b.Places, Blocks: []impl.Block{block}})
		failsForBolts(t, impl.Bolts{Places: b.Places, Blocks: []impl.Block{{A: 0, I: 1, B: 2, J: 4}, block, {A: 1, I: 2, B: 0, J: 0}}})
	}
	for _, block := range []impl.Block{{A: 2, I: 4, B: 1, J: 2}, {A: 1, I: 2, B: 2, J: 4}, {A: 0, I: 1, B: 1, J: 0}, {A: 1, I: 0, B: 0, J: 1}} {
		more, ok := impl.AddBlock(b, block)
		wantBolts(t, fmt.Sprint("AddBlock", block), more, ok, impl.Bolts{Places: b.Places, Blocks: append(slices.Clone(b.Blocks), block)})
	}
}

// noPlaces are numbers of places that bolts cannot have: of no bolt, of too
// many, of too few or too many places, and of more than MaxBolted states.
func noPlaces() [][]int {
	return [][]int{
		nil, {}, {0}, {1}, {6}, {-1}, {-2}, {math.MinInt}, {math.MaxInt}, {2, 1}, {1, 2}, {2, 6}, {6, 2}, {2, 0}, {-2, -2}, {3, 2, -3},
		{2, 2, 2, 2, 2, 2, 2}, {2, 2, 2, 2, 2, 2, 1}, {4, 4, 4, 4, 4}, {4, 4, 4, 4, 2, 2}, {5, 5, 5, 5, 2}, {5, 5, 5, 3, 3}, {5, 5, 5, 5, 5, 5},
		{1 << 32, 1 << 32}, {1 << 32, 1 << 32, 2}, {math.MinInt, 2}, {10, 100}, {2, 500}, {1000}, slices.Repeat([]int{2}, 1<<16),
	}
}

func TestPlacesThatBoltsCannotHave(t *testing.T) {
	for _, counts := range noPlaces() {
		failsForBolts(t, impl.Bolts{Places: counts})
		failsForBolts(t, impl.Bolts{Places: counts, Blocks: []impl.Block{{A: 0, I: 0, B: 1, J: 1}}})
	}
	for _, counts := range [][]int{{2}, {5}, {5, 5, 5, 4, 2}, {5, 5, 5, 2, 2, 2}, {2, 4, 5, 5, 5}, {3, 3, 3, 3, 3, 3}, {2, 2, 2, 2, 2, 2}, {5, 5, 5, 5}} {
		if !impl.AreBolts(impl.Bolts{Places: counts}) {
			t.Error("AreBolts is false of", counts)
		}
	}
}

// failsForBolts checks that every function fails for what are no bolts.
func failsForBolts(t *testing.T, b impl.Bolts) {
	t.Helper()
	what := nameOf(b)
	if impl.AreBolts(b) {
		t.Errorf("AreBolts%s is true", what)
	}
	states, ok := impl.AllowedStates(b)
	wantFailList(t, "AllowedStates"+what, states, ok)
	n, ok := impl.CountAllowed(b)
	wantFail(t, "CountAllowed"+what, n, ok)
	n, ok = impl.PartsOfBolts(b)
	wantFail(t, "PartsOfBolts"+what, n, ok)
	needless, ok := impl.NeedlessBlocks(b)
	wantFailList(t, "NeedlessBlocks"+what, needless, ok)
	text, ok := impl.BoltsText(b)
	wantFail(t, "BoltsText"+what, text, ok)
	other, ok := impl.AddBlock(b, impl.Block{A: 0, I: 0, B: 1, J: 1})
	wantNoBolts(t, "AddBlock"+what, other, ok)
	other, ok = impl.DropBlock(b, 0)
	wantNoBolts(t, "DropBlock"+what, other, ok)
	for _, s := range []string{"", "0", "00", "000", strings.Repeat("0", len(b.Places))} {
		fine, ok := impl.IsAllowed(b, s)
		wantFail(t, "IsAllowed"+what, fine, ok)
		failsForStates(t, b, s)
	}
}

// failsForStates checks that every function that requires an allowed state fails for what is none.
func failsForStates(t *testing.T, b impl.Bolts, s string) {
	t.Helper()
	what := nameOf(b) + fmt.Sprintf(" %.20q", s)
	slides, ok := impl.SlidesOf(b, s)
	wantFailList(t, "SlidesOf"+what, slides, ok)
	for bolt := range len(b.Places) {
		for _, by := range []int{1, -1} {
			text, ok := impl.SlideBolt(b, s, impl.Slide{Bolt: bolt, By: by})
			wantFail(t, "SlideBolt"+what, text, ok)
		}
	}
	n, ok := impl.CountSlid(b, s)
	wantFail(t, "CountSlid"+what, n, ok)
	text, n, ok := impl.FarthestSlid(b, s)
	wantFail(t, "FarthestSlid"+what, text, ok)
	wantFail(t, "FarthestSlid"+what, n, ok)
	other := strings.Repeat("0", len(b.Places))
	failsForTwoStates(t, b, s, s)
	failsForTwoStates(t, b, s, other)
	failsForTwoStates(t, b, other, s)
}

func failsForTwoStates(t *testing.T, b impl.Bolts, from, to string) {
	t.Helper()
	what := nameOf(b) + fmt.Sprintf(" %.20q %.20q", from, to)
	n, ok := impl.FewestSlides(b, from, to)
	wantFail(t, "FewestSlides"+what, n, ok)
	slides, ok := impl.FirstSlides(b, from, to)
	wantFailList(t, "FirstSlides"+what, slides, ok)
	n, ok = impl.CountSlideWays(b, from, to)
	wantFail(t, "CountSlideWays"+what, n, ok)
}

func TestTextsThatAreNoStatesOfBolts(t *testing.T) {
	for text, texts := range map[string][]string{
		"3":        {"", "3", "4", "9", "00", "-", "/", ":", "a", " ", "\x00", "\xff", "0 ", " 0", "0\n", "０"},
		"235":      {"", "0", "00", "0000", "200", "030", "005", "00-", "/00", "0/0", "00:", "00a", "０", "0\x000", "\xff00", "0.0", "+00", "-01"},
		"235;0011": {"", "0", "00", "0000", "200", "030", "005", "+00", "01", "010 "},
		"222222":   {"00000", "0000000", "000002", "200000", "00000x", "０00０", "００"},
	} {
		b := boltsOfText(text)
		for _, s := range texts {
			fine, ok := impl.IsAllowed(b, s)
			wantFail(t, fmt.Sprintf("IsAllowed %s %q", text, s), fine, ok)
			failsForStates(t, b, s)
		}
	}
}

func TestBoltsTextAndParseBolts(t *testing.T) {
	for _, s := range append(fewStates(), windingBolts, crookedBolts, "555222"+strings.Repeat(";0451", 40)) {
		b, ok := impl.ParseBolts(s)
		wantBolts(t, "ParseBolts "+s, b, ok, boltsOfText(s))
		text, ok := impl.BoltsText(b)
		want(t, "BoltsText "+s, text, ok, s)
	}
	for _, b := range append(boltsOfFewStates(), boltsOfManyStates()...) {
		text, ok := impl.BoltsText(b)
		if parsed, fine := impl.ParseBolts(text); ok {
			wantBolts(t, "ParseBolts "+text, parsed, fine, b)
		} else {
			t.Errorf("BoltsText%s fails", nameOf(b))
		}
	}
}

func TestTextsThatAreNoBolts(t *testing.T) {
	for _, s := range []string{
		"", ";", "0", "1", "6", "9", "21", "26", "2222222", "44444", "555555", "2/", "2:", "2a", " 2", "2 ", "2\n", "２", "-2", "+2", "2.", "2,2", "\xff",
		";0111", "33;", "33;;0111", "33;0111;", "33;0111;;0111", "33;011", "33;01111", "33;01110111", "33;0111;1", "33 ;0111", "33; 111", "33;0 11",
		"33:0111", "33,0111", "33;0111,0111", "33;0111 ", "33;0111\n", "33;0131", "33;2101", "33;0311", "33;0113", "33;0101", "33;1111", "33;0a11",
		"33;-111", "33;+111", "33;01１", "33;/111", "33;0:11", "33;01/1", "33;011:", "3;0111", "3;0001", "33;0,1,1,1", "330111", "[3 3]",
		"22" + strings.Repeat(";0011", 41), strings.Repeat("2", 206), strings.Repeat(";", 206), strings.Repeat(";", 1<<16), strings.Repeat("2", 1<<16),
	} {
		b, ok := impl.ParseBolts(s)
		wantNoBolts(t, fmt.Sprintf("ParseBolts %.40q", s), b, ok)
	}
}

func TestBoltsExample(t *testing.T) {
	b, ok := impl.ParseBolts("33;0111")
	wantBolts(t, "ParseBolts", b, ok, impl.Bolts{Places: []int{3, 3}, Blocks: []impl.Block{{A: 0, I: 1, B: 1, J: 1}}})
	states, ok := impl.AllowedStates(b)
	wantList(t, "AllowedStates", states, ok, []string{"00", "01", "02", "10", "12", "20", "21", "22"})
	n, ok := impl.CountAllowed(b)
	want(t, "CountAllowed", n, ok, 8)
	n, ok = impl.FewestSlides(b, "00", "22")
	want(t, "FewestSlides", n, ok, 4)
	list, ok := impl.FirstSlides(b, "00", "22")
	wantList(t, "FirstSlides", list, ok, []impl.Slide{{Bolt: 0, By: 1}, {Bolt: 0, By: 1}, {Bolt: 1, By: 1}, {Bolt: 1, By: 1}})
	n, ok = impl.CountSlideWays(b, "00", "22")
	want(t, "CountSlideWays", n, ok, 2)
	b, _ = impl.ParseBolts("22;0011")
	states, ok = impl.AllowedStates(b)
	wantList(t, "AllowedStates", states, ok, []string{"00", "10", "11"})
	n, ok = impl.PartsOfBolts(b)
	want(t, "PartsOfBolts", n, ok, 1)
	n, ok = impl.CountSlid(b, "11")
	want(t, "CountSlid", n, ok, 3)
}
