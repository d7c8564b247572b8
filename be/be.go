// Package be is layer 1: see shared/doc/01-be.md.
package be

// A number of 64 bits, the widest that is handed in, has so many bytes.
const widest = 8

// Put8: bytes, and a number of 8 bits.
func Put8(b []byte, n uint8) []byte { return Put(b, uint64(n), 1) }

// Put16: bytes, and a number of 16 bits.
func Put16(b []byte, n uint16) []byte { return Put(b, uint64(n), 2) }

// Put32: bytes, and a number of 32 bits.
func Put32(b []byte, n uint32) []byte { return Put(b, uint64(n), 4) }

// Put: bytes, and a number as so many bytes (1 to 8; else none).
//
// The answer is always new memory: a plain append would write into the room
// behind the caller's bytes, which may be somebody else's.
func Put(b []byte, n uint64, size int) []byte {
	if !fits(size) {
		size = 0
	}
	out := append(make([]byte, 0, len(b)+size), b...)
	for i := size - 1; i >= 0; i-- {
		out = append(out, byte(n>>(8*i)))
	}
	return out
}

// Get16: the number that begins bytes; 0 of fewer than two.
func Get16(b []byte) uint16 { return New(b).U16() }

// Get32: likewise, of four.
func Get32(b []byte) uint32 { return New(b).U32() }

// Reader reads bytes from the front, up to the first that is missing.
type Reader struct {
	left []byte
	bad  bool
}

// New: a reader of bytes (that nobody turns meanwhile).
func New(b []byte) *Reader { return &Reader{left: b} }

// Left: how many bytes aren't read.
func (r *Reader) Left() int { return len(r.left) }

// Bad: were there too few bytes for a call? (From then on nothing is read.)
func (r *Reader) Bad() bool { return r.bad }

// Num: the next so many bytes (1 to 8) as a number; 0, if there are fewer.
func (r *Reader) Num(size int) uint64 {
	if !fits(size) {
		r.bad = true
	}
	n := uint64(0)
	for _, c := range r.next(size) {
		n = n<<8 | uint64(c)
	}
	return n
}

// U8: the next byte.
func (r *Reader) U8() uint8 { return uint8(r.Num(1)) }

// U16: the next two.
func (r *Reader) U16() uint16 { return uint16(r.Num(2)) }

// U32: the next four.
func (r *Reader) U32() uint32 { return uint32(r.Num(4)) }

// Take: the next so many bytes; none, if there are fewer.
//
// It answers a copy, so that whoever has it can't turn what the reader reads.
func (r *Reader) Take(n int) []byte { return append([]byte(nil), r.next(n)...) }

// Rest: all that are left.
func (r *Reader) Rest() []byte { return r.Take(len(r.left)) }

// next moves on by n bytes, without a copy of them, since most of its callers
// only look. What can't be read stays where it is, so that Left still counts it.
func (r *Reader) next(n int) []byte {
	if r.bad || n < 0 || n > len(r.left) {
		r.bad = true
		return nil
	}
	b := r.left[:n]
	r.left = r.left[n:]
	return b
}

// fits: is there a number of so many bytes?
func fits(size int) bool { return size >= 1 && size <= widest }
