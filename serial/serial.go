// Package serial is layer 2: see shared/doc/02-serial.md.
package serial

// Less: is a ahead of b: by 1 to 2^31 - 1 steps?
func Less(a, b uint32) bool { return Distance(a, b) > 0 }

// Distance: how many steps it is from a to b: from -2^31 to 2^31 - 1.
//
// The difference goes round as an unsigned number does; as a signed one of as
// many bits its upper half are the steps back.
func Distance(a, b uint32) int { return int(int32(b - a)) }

// Max: the later one (a, if neither is ahead of the other).
func Max(a, b uint32) uint32 {
	if Less(a, b) {
		return b
	}
	return a
}

// Between: is b one of those from a on, up to c, going up?
//
// Both are held against each other as steps from a, since going up may go round.
func Between(a, b, c uint32) bool { return b-a <= c-a }

// Add: so many steps on (below 0: back).
func Add(a uint32, n int) uint32 { return a + uint32(n) }

// Wide tells numbers that go round as numbers that don't: each that comes is taken to be the one that is nearest to the greatest so far.
type Wide struct {
	top int64
}

// Of: the number that doesn't go round; the first one is itself. (Never below 0: then it is as much on.)
//
// Nothing says whether a number came already: seen from a greatest of 0 each
// number is itself, so the first one needs no case of its own.
func (w *Wide) Of(n uint32) int64 {
	at := w.top + int64(Distance(uint32(w.top), n))
	if at < 0 {
		at += 1 << 32
	}
	w.top = max(w.top, at)
	return at
}

// Top: the greatest so far; 0, if there is none.
func (w *Wide) Top() int64 { return w.top }
