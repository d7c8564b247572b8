package fcs

import (
	"bytes"
	"math/bits"
	"slices"
	"testing"
)

// step is a sum with one byte more, by the chapter's words.
func step(s int, c byte) int {
	s ^= int(c)
	for i := 0; i < 8; i++ {
		half := s / 2
		if s%2 == 1 {
			half ^= 0x8408
		}
		s = half
	}
	return s
}

// frames are bytes of several lengths and kinds.
func frames() [][]byte {
	l := [][]byte{
		nil,
		{},
		{0},
		{255},
		{0, 0},
		{0xff, 0x03, 0xc0, 0x21, 1, 1, 0, 4},
		[]byte("123456789"),
		bytes.Repeat([]byte{0}, 40),
		bytes.Repeat([]byte{255}, 40),
		make([]byte, 1600),
	}
	for i := range l[len(l)-1] {
		l[len(l)-1][i] = byte(i * i >> 3)
	}
	return l
}

func TestNamedSums(t *testing.T) { // P9.1, P9.2
	if First != 65535 || Good != 0xf0b8 {
		t.Fatal(First, Good)
	}
}

func TestAddOfKnownSums(t *testing.T) { // P9.1
	for _, c := range []struct {
		s    uint16
		b    []byte
		want uint16
	}{
		{0, []byte{0}, 0},
		{0, []byte{1}, 0x1189}, // these are in the table of RFC 1662
		{0, []byte{2}, 0x2312},
		{0, []byte{3}, 0x329b},
		{0, []byte{128}, 0x8408},
		{0, []byte{255}, 0x0f78},
		{0x100, []byte{0}, 1},
		{1, []byte{1}, 0},
		{First, []byte("123456789"), 0x6f91}, // 906e, the known sum of these, from 65535
		{First, []byte{0, 0}, Good},          // a sealed frame of nothing
	} {
		if got := Add(c.s, c.b...); got != c.want {
			t.Errorf("Add(%x, %v): %x, not %x", c.s, c.b, got, c.want)
		}
	}
}

func TestAddOfNothing(t *testing.T) { // P9.1
	for s := range 65536 {
		if got := Add(uint16(s)); got != uint16(s) {
			t.Fatalf("Add(%x): %x", s, got)
		}
	}
	if Add(5, nil...) != 5 || Add(5, []byte{}...) != 5 {
		t.Fatal("an empty list")
	}
}

func TestAddOfAByte(t *testing.T) { // P9.1
	for s := range 65536 {
		for _, c := range []byte{0, 1, 2, 0x7e, 0x80, 0xff, byte(s), byte(s >> 8), byte(s * 3)} {
			if got := Add(uint16(s), c); int(got) != step(s, c) {
				t.Fatalf("Add(%x, %x): %x, not %x", s, c, got, step(s, c))
			}
		}
	}
}

func TestAddIsByteByByte(t *testing.T) { // P9.1
	for _, b := range frames() {
		want := First
		for _, c := range b {
			want = step(want, c)
		}
		if got := Add(First, b...); int(got) != want {
			t.Errorf("of %d bytes: %x, not %x", len(b), got, want)
		}
		for cut := range len(b) {
			if got := Add(Add(First, b[:cut]...), b[cut:]...); int(got) != want {
				t.Errorf("of %d bytes, cut at %d: %x, not %x", len(b), cut, got, want)
			}
		}
	}
}

func TestSeal(t *testing.T) { // P9.2
	for _, c := range []struct{ b, want []byte }{
		{nil, []byte{0, 0}}, // the chapter's example
		{[]byte{}, []byte{0, 0}},
		{[]byte("123456789"), []byte("123456789\x6e\x90")},
	} {
		if got := Seal(c.b); !bytes.Equal(got, c.want) {
			t.Errorf("Seal(%v): %v, not %v", c.b, got, c.want)
		}
	}
	for _, b := range frames() {
		s := 65535 - int(Add(First, b...))
		want := append(slices.Clone(b), byte(s%256), byte(s/256))
		if got := Seal(b); !bytes.Equal(got, want) {
			t.Errorf("Seal of %d bytes: %v, not %v", len(b), got, want)
		}
	}
}

func TestSealAnswersNewMemory(t *testing.T) { // rule 5
	room := bytes.Repeat([]byte{3}, 16)
	one := Seal(room[:4])
	two := Seal(room[:4])
	for i := range one {
		one[i] = 99
	}
	if !bytes.Equal(room, bytes.Repeat([]byte{3}, 16)) {
		t.Fatal("what was handed in is turned", room)
	}
	if got, ok := Open(two); !ok || !bytes.Equal(got, room[:4]) {
		t.Fatal("two answers hang together", two)
	}
}

func TestOpenAnswersNewMemory(t *testing.T) { // rule 5
	b := Seal([]byte{1, 2, 3})
	was := slices.Clone(b)
	got, _ := Open(b)
	got[0] = 99
	_ = append(got, 88, 77)
	if !bytes.Equal(b, was) {
		t.Fatal("what was handed in is turned", b)
	}
}

func TestWhatWasSealedIsOpened(t *testing.T) { // P9.3
	for _, b := range frames() {
		if got, ok := Open(Seal(b)); !ok || !bytes.Equal(got, b) {
			t.Errorf("%d bytes: %v, %v", len(b), got, ok)
		}
		twice, ok := Open(Seal(Seal(b)))
		if got, again := Open(twice); !ok || !again || !bytes.Equal(got, b) {
			t.Errorf("%d bytes, sealed twice: %v, %v", len(b), got, again)
		}
	}
}

// refused: Open answers none, false.
func refused(b []byte) bool {
	got, ok := Open(b)
	return !ok && len(got) == 0
}

func TestOpenOfTooFew(t *testing.T) { // P9.2
	if !refused(nil) || !refused([]byte{}) {
		t.Fatal("nothing at all")
	}
	good := false
	for c := range 256 {
		if !refused([]byte{byte(c)}) {
			t.Fatal("a byte alone", c)
		}
		for d := range 256 {
			b := []byte{byte(c), byte(d)}
			got, ok := Open(b)
			if ok != (Add(First, b...) == Good) || len(got) != 0 {
				t.Fatal("two bytes", b, got, ok)
			}
			good = good || ok
		}
	}
	if !good {
		t.Fatal("no two bytes are opened")
	}
}

func TestOpenOfWrongSums(t *testing.T) { // P9.2
	for _, b := range frames() {
		sealed := Seal(b)
		for s := range 65536 {
			wrong := append(slices.Clone(b), byte(s), byte(s>>8))
			if bytes.Equal(wrong, sealed) {
				continue
			}
			if len(b) < 100 && !refused(wrong) {
				t.Fatalf("%d bytes with the sum %x", len(b), s)
			}
		}
		n := len(sealed)
		swapped := append(slices.Clone(b), sealed[n-1], sealed[n-2])
		if sealed[n-1] != sealed[n-2] && !refused(swapped) {
			t.Errorf("%d bytes, the high byte of the sum first", len(b))
		}
		if !refused(sealed[:n-1]) || !refused(append(sealed, 1)) {
			t.Errorf("%d bytes, one fewer or more", len(b))
		}
	}
}

// turned are bytes in which so many bits are xor a mask, from the bit at a place on.
// A byte's bits go from its low one on, as PPP sends them; from its high one on, if high.
func turned(b []byte, at int, mask uint16, high bool) []byte {
	out := slices.Clone(b)
	for ; mask != 0; mask &= mask - 1 {
		bit := at + bits.TrailingZeros16(mask)
		turn := byte(1) << (bit % 8)
		if high {
			turn = bits.Reverse8(turn)
		}
		out[bit/8] ^= turn
	}
	return out
}

func TestOneBitTurned(t *testing.T) { // P9.3
	for _, b := range frames() {
		sealed := Seal(b)
		for at := range 8 * len(sealed) {
			if !refused(turned(sealed, at, 1, false)) {
				t.Fatalf("%d bytes, the bit %d turned", len(b), at)
			}
		}
	}
}

func TestTurnedBitsWithinSixteen(t *testing.T) { // P9.3
	for _, b := range [][]byte{nil, {0x7e}, {1, 2, 3, 4}} {
		sealed := Seal(b)
		many := 8 * len(sealed)
		for at := range many {
			// An odd mask turns the bit at the place: so no row comes twice.
			for mask := 1; mask < 65536 && at+bits.Len(uint(mask)) <= many; mask += 2 {
				m := uint16(mask)
				if !refused(turned(sealed, at, m, false)) || !refused(turned(sealed, at, m, true)) {
					t.Fatalf("%v, from %d on turned by %b", b, at, mask)
				}
			}
		}
	}
}
