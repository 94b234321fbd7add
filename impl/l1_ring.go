package impl

import "math/bits"

const MaxRings = 20
const MaxMoves = 2000

// ring is one ring of a bar: which one it is, and whether it is on.
type ring struct {
	place int
	on    bool
}

// bar is a state. The embedded ring is the first one that is on, or the zero
// ring if none is: it alone decides which ring but the ring 0 can be moved.
type bar struct {
	ring
	rings int
	signs uint // the digit k is 1 if the ring k is on
}

// IsState reports whether a text is a state.
func IsState(s string) bool {
	return isRingCount(len(s)) && onlySigns(s)
}

// CountOn returns how many rings are on.
func CountOn(s string) (int, bool) {
	b, ok := barOf(s)
	return b.countOn(), ok
}

// AllOn returns the state of a number of rings in which all are on.
func AllOn(rings int) (string, bool) {
	if !isRingCount(rings) {
		return "", false
	}
	return barAllOn(rings).text(), true
}

// MovesOf returns the rings that can be moved, increasing.
func MovesOf(s string) ([]int, bool) {
	b, ok := barOf(s)
	if !ok {
		return nil, false
	}
	var moves []int
	for k := range b.rings {
		if b.canMove(k) {
			moves = append(moves, k)
		}
	}
	return moves, true
}

// MoveRing returns the state behind a move. It fails if the ring cannot be moved.
func MoveRing(s string, k int) (string, bool) {
	b, ok := barOf(s)
	if !ok || !b.canMove(k) {
		return "", false
	}
	return b.moved(k).text(), true
}

// PlayMoves returns the state behind all moves, one after the other. It fails if one of them cannot be made.
func PlayMoves(s string, moves []int) (string, bool) {
	b, ok := barOf(s)
	if !ok || !isMoveCount(len(moves)) {
		return "", false
	}
	last, made := b.played(moves)
	if made < len(moves) {
		return "", false
	}
	return last.text(), true
}

// MoveThatFails returns the index of the first move that cannot be made, not being a ring, or not being able to move. It fails if all can be made.
func MoveThatFails(s string, moves []int) (int, bool) {
	b, ok := barOf(s)
	if !ok || !isMoveCount(len(moves)) {
		return 0, false
	}
	_, made := b.played(moves)
	if made == len(moves) {
		return 0, false
	}
	return made, true
}

// NumberOfState returns the number of a state: the fewest number of moves from it to all rings off.
func NumberOfState(s string) (int, bool) {
	b, ok := barOf(s)
	return b.number(), ok
}

// StateOfNumber returns the state of so many rings with a number. It fails if there is none.
func StateOfNumber(rings int, number int) (string, bool) {
	if !isRingCount(rings) || number < 0 || number > greatestNumber(rings) {
		return "", false
	}
	return barOfNumber(rings, number).text(), true
}

// FewestMoves returns the fewest number of moves that lead from one state to the other one.
func FewestMoves(a string, b string) (int, bool) {
	from, to, ok := twoBars(a, b)
	if !ok {
		return 0, false
	}
	return movesApart(from, to), true
}

// NextMove returns the ring that is moved first by the fewest moves. It fails if both states are the same.
func NextMove(a string, b string) (int, bool) {
	from, to, ok := twoBars(a, b)
	if !ok || from == to {
		return 0, false
	}
	next := ringToward(from, to)
	return next(from), true
}

// WayTo returns all of the fewest moves. It fails if they are more than MaxMoves.
func WayTo(a string, b string) ([]int, bool) {
	from, to, ok := twoBars(a, b)
	if !ok || !isMoveCount(movesApart(from, to)) {
		return nil, false
	}
	next := ringToward(from, to)
	var way []int
	for at := from; at != to; {
		k := next(at)
		way = append(way, k)
		at = at.moved(k)
	}
	return way, true
}

// MovesToClear returns the number of AllOn.
func MovesToClear(rings int) (int, bool) {
	if !isRingCount(rings) {
		return 0, false
	}
	return barAllOn(rings).number(), true
}

// FarthestFrom returns the states that need the most moves, by the fewest of each, from a state, those with lesser numbers first, and how many moves these are.
func FarthestFrom(s string) ([]string, int, bool) {
	b, ok := barOf(s)
	if !ok {
		return nil, 0, false
	}
	// An odd number of moves leads from one end to the other one, so that no
	// state is as far from both.
	far := barOfNumber(b.rings, 0)
	if end := barOfNumber(b.rings, greatestNumber(b.rings)); movesApart(b, end) > movesApart(b, far) {
		far = end
	}
	return []string{far.text()}, movesApart(b, far), true
}

// StatesBetween returns all states that the fewest moves lead over from a to b, both with them, in their order. It fails if there are more than MaxMoves states.
func StatesBetween(a string, b string) ([]string, bool) {
	from, to, ok := twoBars(a, b)
	if !ok || !isMoveCount(movesApart(from, to)+1) {
		return nil, false
	}
	next := ringToward(from, to)
	states := []string{from.text()}
	for at := from; at != to; {
		at = at.moved(next(at))
		states = append(states, at.text())
	}
	return states, true
}

// MiddleOf returns the state behind half of the fewest moves from a to b, rounded down.
func MiddleOf(a string, b string) (string, bool) {
	from, to, ok := twoBars(a, b)
	if !ok {
		return "", false
	}
	// The division rounds toward 0, and so toward a in both directions.
	half := (to.number() - from.number()) / 2
	return barOfNumber(from.rings, from.number()+half).text(), true
}

// TimesMoved returns how often each ring is moved in the fewest moves.
func TimesMoved(a string, b string) ([]int, bool) {
	from, to, ok := twoBars(a, b)
	if !ok {
		return nil, false
	}
	least := min(from.number(), to.number())
	greatest := max(from.number(), to.number())
	times := make([]int, from.rings)
	for k := range times {
		times[k] = timesUpTo(greatest, k) - timesUpTo(least, k)
	}
	return times, true
}

// OtherEnd returns the state with the greatest number: just the last ring is on.
func OtherEnd(rings int) (string, bool) {
	if !isRingCount(rings) {
		return "", false
	}
	return barOfNumber(rings, greatestNumber(rings)).text(), true
}

// MovesText returns the moves as letters, a for the ring 0, b for 1, up to t.
func MovesText(moves []int) (string, bool) {
	if !isMoveCount(len(moves)) {
		return "", false
	}
	letters := make([]byte, len(moves))
	for i, k := range moves {
		if k < 0 || k >= MaxRings {
			return "", false
		}
		letters[i] = 'a' + byte(k)
	}
	return string(letters), true
}

// ParseMoves returns the moves with a MovesText. It fails if there are none such, or too many.
func ParseMoves(s string) ([]int, bool) {
	if !isMoveCount(len(s)) {
		return nil, false
	}
	moves := make([]int, len(s))
	for i := range moves {
		if s[i] < 'a' || s[i] >= 'a'+MaxRings {
			return nil, false
		}
		moves[i] = int(s[i] - 'a')
	}
	return moves, true
}

func isRingCount(rings int) bool {
	return rings >= 1 && rings <= MaxRings
}

func onlySigns(s string) bool {
	for i := range len(s) {
		if s[i] != '0' && s[i] != '1' {
			return false
		}
	}
	return true
}

func isMoveCount(moves int) bool {
	return moves <= MaxMoves
}

// greatestNumber requires a number of rings.
func greatestNumber(rings int) int {
	return 1<<rings - 1
}

func newBar(rings int, signs uint) bar {
	b := bar{rings: rings, signs: signs}
	if signs != 0 {
		b.ring = ring{place: bits.TrailingZeros(signs), on: true}
	}
	return b
}

// barOf returns the bar of a state, or the zero bar and false if s is none.
func barOf(s string) (bar, bool) {
	if !IsState(s) {
		return bar{}, false
	}
	signs := uint(0)
	for k := range len(s) {
		if s[k] == '1' {
			signs |= 1 << k
		}
	}
	return newBar(len(s), signs), true
}

// twoBars returns the bars of two states of as many rings.
func twoBars(a, b string) (bar, bar, bool) {
	from, fine := barOf(a)
	to, good := barOf(b)
	if !fine || !good || from.rings != to.rings {
		return bar{}, bar{}, false
	}
	return from, to, true
}

func barAllOn(rings int) bar {
	return newBar(rings, 1<<rings-1)
}

// barOfNumber requires a number that so many rings have. The numbers of the
// states, written in binary, are the signs summed up from the last ring on, so
// that the signs are where neighbouring digits of the number differ.
func barOfNumber(rings, number int) bar {
	return newBar(rings, uint(reflected(number)))
}

func (b bar) number() int {
	return unreflected(int(b.signs))
}

// reflected returns a number of at least 0 in which each digit tells whether
// two neighbouring digits of n differ.
func reflected(n int) int {
	return n ^ n>>1
}

// unreflected returns the number that is reflected as g, of at least 0.
func unreflected(g int) int {
	n := 0
	for rest := g; rest != 0; rest >>= 1 {
		n ^= rest
	}
	return n
}

func (b bar) text() string {
	s := make([]byte, b.rings)
	for k := range s {
		s[k] = '0' + byte(b.signs>>k&1)
	}
	return string(s)
}

func (b bar) countOn() int {
	return bits.OnesCount(b.signs)
}

// canMove reports whether k is a ring that can be moved. That the ring before
// k is on and all before that one are off is that it is the first one on.
func (b bar) canMove(k int) bool {
	if k < 0 || k >= b.rings {
		return false
	}
	return k == 0 || b.ring == ring{place: k - 1, on: true}
}

// moved requires a ring that can be moved.
func (b bar) moved(k int) bar {
	return newBar(b.rings, b.signs^1<<k)
}

// played returns the bar behind the moves up to the first one that cannot be
// made, and how many are made.
func (b bar) played(moves []int) (bar, int) {
	for i, k := range moves {
		if !b.canMove(k) {
			return b, i
		}
		b = b.moved(k)
	}
	return b, len(moves)
}

// raisingRing returns the ring by which the number becomes one more, of a bar
// that is not at its other end. Each move makes both the number and how many
// rings are on even or odd in turn, from no ring and the number 0 on; and moves
// along the line are in turn that of the ring 0 and the other one there is.
func (b bar) raisingRing() int {
	if b.countOn()%2 == 0 {
		return 0
	}
	return b.place + 1
}

// loweringRing returns the ring by which the number becomes one less, of a bar
// with a ring on: the one of the two moves that does not raise it.
func (b bar) loweringRing() int {
	if b.countOn()%2 == 1 {
		return 0
	}
	return b.place + 1
}

// movesApart is how far two numbers are from each other, because each move
// changes the number by one.
func movesApart(from, to bar) int {
	return max(from.number(), to.number()) - min(from.number(), to.number())
}

// ringToward returns what tells, for each bar on the way, the ring to move. A
// way of fewest moves never turns, so one direction holds for all of it.
func ringToward(from, to bar) func(bar) int {
	if from.number() < to.number() {
		return bar.raisingRing
	}
	return bar.loweringRing
}

// timesUpTo returns how often the ring k is moved on the way from the number 0
// to n: once for each of 1, .., n that 2 divides just k times.
func timesUpTo(n, k int) int {
	return n>>k - n>>(k+1)
}
