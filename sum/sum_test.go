package sum

import (
	"bytes"
	"math/rand"
	"slices"
	"testing"
)

// plain: the checksum, word for word as the chapter says it, with a number that holds any sum.
func plain(b []byte) uint16 {
	total := uint64(0)
	for i := 0; i < len(b); i += 2 {
		total += 256 * uint64(b[i])
		if i+1 < len(b) {
			total += uint64(b[i+1])
		}
	}
	for total > 65535 {
		total = total/65536 + total%65536
	}
	return uint16(65535 - total)
}

// some: bytes by chance, with more noughts and 255s than by chance alone.
func some(r *rand.Rand, n int) []byte {
	b := make([]byte, n)
	for i := range b {
		switch r.Intn(4) {
		case 0:
			b[i] = 0
		case 1:
			b[i] = 255
		default:
			b[i] = byte(r.Intn(256))
		}
	}
	return b
}

func TestOf(t *testing.T) { // P5.1
	for _, c := range []struct {
		b    []byte
		want uint16
	}{
		{[]byte{0, 1, 242, 3}, 65535 - 61956}, // the chapter's example
		{nil, 65535},
		{[]byte{}, 65535},
		{[]byte{0}, 65535},
		{[]byte{0, 0}, 65535},
		{[]byte{255, 255}, 0},
		{[]byte{255, 255, 255, 255}, 0}, // 131070: 65535 once folded
		{[]byte{1}, 65535 - 256},        // a last byte alone has 0 behind
		{[]byte{0, 1}, 65534},
		{[]byte{1, 2, 3}, 65535 - 0x102 - 0x300},
		{[]byte{255, 255, 0, 1}, 65534},           // 65536 becomes 1
		{[]byte{128, 0, 128, 0}, 65534},           // likewise
		{[]byte{255, 255, 255, 255, 0, 1}, 65534}, // folded once more than once
		{[]byte{0x00, 0x01, 0xf2, 0x03, 0xf4, 0xf5, 0xf6, 0xf7}, 0x220d}, // RFC 1071's own
	} {
		if got := Of(c.b); got != c.want {
			t.Errorf("Of(%v): %d, not %d", c.b, got, c.want)
		}
	}
}

func TestSumOfEachWord(t *testing.T) { // P5.1
	for w := range 65536 {
		b := []byte{byte(w >> 8), byte(w)}
		want := uint16(65535 - w)
		if Of(b) != want || (Sum{}).Word(uint16(w)).Value() != want || (Sum{}).Add(b...).Value() != want {
			t.Fatalf("the word %d: %d", w, Of(b))
		}
	}
}

func TestOfAnyBytes(t *testing.T) { // P5.1
	r := rand.New(rand.NewSource(5))
	for range 3000 {
		b := some(r, r.Intn(200))
		if got, want := Of(b), plain(b); got != want {
			t.Fatalf("Of(%v): %d, not %d", b, got, want)
		}
	}
}

func TestOfManyBytes(t *testing.T) { // P5.1: the sum of words is far above 32 bits
	b := bytes.Repeat([]byte{255, 254}, 70000)
	if got, want := Of(b), plain(b); got != want {
		t.Errorf("of 70000 words: %d, not %d", got, want)
	}
	var s Sum
	for range 4 {
		s = s.Add(b...)
	}
	if got, want := s.Value(), plain(bytes.Repeat(b, 4)); got != want {
		t.Errorf("of 280000 words: %d, not %d", got, want)
	}
}

func TestAddAndWord(t *testing.T) { // P5.1
	var zero Sum
	if zero.Value() != 65535 || zero.Add().Value() != 65535 || zero.Add([]byte{}...).Value() != 65535 {
		t.Error("the zero Sum isn't that of nothing")
	}
	if got := zero.Add(0, 1, 242, 3).Value(); got != 65535-61956 {
		t.Errorf("Add: %d", got)
	}
	if got := zero.Word(1).Word(0xf203).Value(); got != 65535-61956 {
		t.Errorf("Word: %d", got)
	}
	if got := zero.Word(1).Add(242, 3).Word(0xffff).Add(1).Value(); got != plain([]byte{0, 1, 242, 3, 255, 255, 1}) {
		t.Errorf("Word and Add by turns: %d", got)
	}
}

func TestSumByPieces(t *testing.T) { // P5.1: a piece may end within a word
	r := rand.New(rand.NewSource(51))
	for range 2000 {
		var all []byte
		var s Sum
		for range r.Intn(8) {
			if len(all)%2 == 0 && r.Intn(3) == 0 {
				w := some(r, 2)
				s = s.Word(uint16(w[0])<<8 | uint16(w[1]))
				all = append(all, w...)
			} else {
				b := some(r, r.Intn(6))
				s = s.Add(b...)
				all = append(all, b...)
			}
			if got, want := s.Value(), plain(all); got != want {
				t.Fatalf("the sum of %v by pieces: %d, not %d", all, got, want)
			}
		}
	}
}

func TestASumIsAValue(t *testing.T) { // P5.1, P2
	s := Sum{}.Add(1, 2, 3)
	was := s.Value()
	more := s.Add(4)
	other := s.Add(9, 9)
	s.Word(77)
	if s.Value() != was {
		t.Error("a sum was changed by what came of it")
	}
	if more.Value() != plain([]byte{1, 2, 3, 4}) || other.Value() != plain([]byte{1, 2, 3, 9, 9}) {
		t.Error("two that came of one sum touch each other")
	}
}

func TestBytesStay(t *testing.T) { // P1
	b := []byte{1, 2, 3, 250, 251}
	was := slices.Clone(b)
	Of(b)
	Right(b)
	Sum{}.Add(b...)
	if !slices.Equal(b, was) {
		t.Error("the bytes were changed")
	}
}

func TestRight(t *testing.T) { // P5.1
	for _, c := range []struct {
		b    []byte
		want bool
	}{
		{nil, false},
		{[]byte{0, 0}, false},
		{[]byte{255, 255}, true},
		{[]byte{255}, false},
		{[]byte{255, 254}, false},
		{[]byte{255, 254, 0, 1}, true},
		{[]byte{255, 254, 0, 2}, false},
		{[]byte{255, 254, 1}, false},
		{[]byte{254, 255, 1}, true}, // 65279 and 256
		{[]byte{255, 255, 255, 255}, true},
		{[]byte{128, 0, 127, 255}, true},
		{[]byte{128, 0, 128, 0}, false},
	} {
		if got := Right(c.b); got != c.want {
			t.Errorf("Right(%v): %v", c.b, got)
		}
	}
}

func TestRightAsOfIs0(t *testing.T) { // P5.1
	for w := range 65536 {
		b := []byte{byte(w >> 8), byte(w), 0x12, 0x34}
		if Right(b) != (plain(b) == 0) {
			t.Fatalf("Right(%v): %v", b, Right(b))
		}
	}
}

func TestTurnedExamples(t *testing.T) { // P5.2
	for _, c := range []struct {
		check, was, now, want uint16
	}{
		{65535, 0, 0, 0},     // all bytes are 0, and stay so
		{65534, 1, 0, 0},     // all bytes are 0 then
		{0, 65535, 0, 0},     // likewise, or the other words add up to 65535
		{65535, 0, 1, 65534}, // from all 0
		{65535, 0, 65535, 0},
		{65534, 1, 2, 65533},
		{65533, 2, 1, 65534},
		{0, 1, 1, 0},
		{0xdd2f, 0x5555, 0x3285, 0x0000}, // RFC 1624's own
	} {
		if got := Turned(c.check, c.was, c.now); got != c.want {
			t.Errorf("Turned(%d, %d, %d): %d, not %d", c.check, c.was, c.now, got, c.want)
		}
	}
}

// turn: what Turned has to answer where a word at i of b becomes now; and what it answers.
func turn(b []byte, i int, now uint16) (got, want uint16) {
	at := func(k int) uint16 {
		if k < len(b) {
			return uint16(b[k])
		}
		return 0
	}
	was := at(i)<<8 | at(i+1)
	then := append(slices.Clone(b), 0)
	then[i], then[i+1] = byte(now>>8), byte(now)
	want = plain(then)
	if !slices.ContainsFunc(then, func(c byte) bool { return c != 0 }) {
		want = 0
	}
	return Turned(plain(b), was, now), want
}

func TestTurnedOfAnyBytes(t *testing.T) { // P5.2
	r := rand.New(rand.NewSource(52))
	for range 20000 {
		b := some(r, 1+r.Intn(12))
		i := r.Intn((len(b)+1)/2) * 2
		now := []uint16{0, 1, 65535, 65534, uint16(r.Intn(65536))}[r.Intn(5)]
		if got, want := turn(b, i, now); got != want {
			t.Fatalf("the word at %d of %v becomes %d: %d, not %d", i, b, now, got, want)
		}
	}
}

func TestTurnedOfEdges(t *testing.T) { // P5.2
	edges := []uint16{0, 1, 2, 255, 256, 32767, 32768, 65533, 65534, 65535}
	for _, a := range edges {
		for _, c := range edges {
			for _, was := range edges {
				for _, now := range edges {
					b := []byte{byte(a >> 8), byte(a), byte(was >> 8), byte(was), byte(c >> 8), byte(c)}
					if got, want := turn(b, 2, now); got != want {
						t.Fatalf("%d in %v becomes %d: %d, not %d", was, b, now, got, want)
					}
				}
			}
		}
	}
}

func TestSealedIsRight(t *testing.T) { // P5.3
	r := rand.New(rand.NewSource(53))
	for range 5000 {
		b := some(r, 2+r.Intn(60))
		if r.Intn(20) == 0 {
			clear(b) // the sum of noughts is 65535, not 0
		}
		i := r.Intn(len(b)/2) * 2
		b[i], b[i+1] = 0, 0
		c := Of(b)
		b[i], b[i+1] = byte(c>>8), byte(c)
		if !Right(b) {
			t.Fatalf("%v with its checksum at %d isn't right", b, i)
		}
		bit := r.Intn(8 * len(b))
		b[bit/8] ^= 1 << (bit % 8)
		if Right(b) { // one bit alone never leaves the sum as it was
			t.Fatalf("%v with a turned bit %d is right", b, bit)
		}
	}
}
