package md5

import (
	"bytes"
	crypto "crypto/md5"
	"encoding/hex"
	"math/rand"
	"slices"
	"strings"
	"testing"
)

// counted: so many bytes, each another one than those beside it.
func counted(n int) []byte {
	b := make([]byte, n)
	for i := range b {
		b[i] = byte(i*7 + i>>8*3 + 1)
	}
	return b
}

func TestOfKnownTexts(t *testing.T) { // P4.1
	for s, want := range map[string]string{ // the chapter's example, and those of RFC 1321
		"abc":                        "900150983cd24fb0d6963f7d28e17f72",
		"":                           "d41d8cd98f00b204e9800998ecf8427e",
		"a":                          "0cc175b9c0f1b6a831c399e269772661",
		"message digest":             "f96b697d7cb7938d525a2f31aaf161d0",
		"abcdefghijklmnopqrstuvwxyz": "c3fcd3d76192e4007dfb496cca67e13b",
		"ABCDEFGHIJKLMNOPQRSTUVWXYZabcdefghijklmnopqrstuvwxyz0123456789": "d174ab98d277d9f5a5611c2c9f419d9f",
		strings.Repeat("1234567890", 8):                                  "57edf4a22be3c955ac49da2e2107b67a",
	} {
		got := Of([]byte(s))
		if hex.EncodeToString(got[:]) != want {
			t.Errorf("Of(%q): %x, not %s", s, got, want)
		}
	}
}

func TestDigestOfEachLength(t *testing.T) { // P4.1: up to 55, from 56 on, whole blocks
	for n := range 400 {
		for _, b := range [][]byte{counted(n), make([]byte, n), bytes.Repeat([]byte{255}, n)} {
			want := Digest(crypto.Sum(b))
			if got := Of(b); got != want {
				t.Fatalf("Of %d bytes: %x, not %x", n, got, want)
			}
			var h Hash
			h.Write(b)
			if got := h.Sum(); got != want {
				t.Fatalf("Sum of %d bytes: %x, not %x", n, got, want)
			}
		}
	}
}

func TestDigestOfEachByte(t *testing.T) { // P4.1
	for i := range 256 {
		for at := range 64 {
			b := make([]byte, 64)
			b[at] = byte(i)
			if got, want := Of(b), Digest(crypto.Sum(b)); got != want {
				t.Fatalf("byte %d at %d: %x, not %x", i, at, got, want)
			}
		}
	}
}

func TestDigestOfManyBits(t *testing.T) { // P4.1: the number of bits takes more than four of its eight bytes
	b := counted(1 << 20)
	var h Hash
	whole := crypto.New()
	for range 512 {
		h.Write(b)
		whole.Write(b)
	}
	if got, want := h.Sum(), whole.Sum(nil); !bytes.Equal(got[:], want) {
		t.Fatalf("2^32 bits: %x, not %x", got, want)
	}
}

func TestNothingIsTaken(t *testing.T) { // P4.1
	want := Digest(crypto.Sum(nil))
	var zero Hash
	if got := zero.Sum(); got != want {
		t.Errorf("the zero Hash: %x", got)
	}
	for _, got := range []Digest{Of(), Of(nil), Of([]byte{}), Of(nil, []byte{}, nil)} {
		if got != want {
			t.Errorf("Of nothing: %x", got)
		}
	}
	zero.Write(nil)
	zero.Write([]byte{})
	if got := zero.Sum(); got != want {
		t.Errorf("after no bytes: %x", got)
	}
}

func TestMoreMayComeAfterSum(t *testing.T) { // P4.1
	b := counted(300)
	var h Hash
	for i := range b {
		want := Digest(crypto.Sum(b[:i]))
		for range 2 { // asking changes nothing
			if got := h.Sum(); got != want {
				t.Fatalf("Sum after %d bytes: %x, not %x", i, got, want)
			}
		}
		h.Write(b[i : i+1])
	}
}

func TestACopyGoesItsOwnWay(t *testing.T) { // P4.1, P2
	b := counted(90)
	var h Hash
	h.Write(b[:70])
	other := h
	other.Write([]byte("something else"))
	h.Write(b[70:])
	if got, want := h.Sum(), Digest(crypto.Sum(b)); got != want {
		t.Errorf("what its copy took changed it: %x, not %x", got, want)
	}
	if got, want := other.Sum(), Digest(crypto.Sum(append(b[:70:70], "something else"...))); got != want {
		t.Errorf("the copy: %x, not %x", got, want)
	}
}

func TestWhatIsHandedInStaysAndIsNotKept(t *testing.T) { // P4.1, P1
	b := counted(100)
	was := slices.Clone(b)
	want := Digest(crypto.Sum(was))
	var h Hash
	h.Write(b)
	Of(b, b)
	Same(b, b)
	if !bytes.Equal(b, was) {
		t.Fatal("the bytes were changed")
	}
	for i := range b {
		b[i] = 0
	}
	if got := h.Sum(); got != want {
		t.Errorf("the bytes were kept: %x, not %x", got, want)
	}
}

func TestPiecesDoNotMatter(t *testing.T) { // P4.3, P4.1
	for _, n := range []int{0, 1, 2, 55, 56, 57, 63, 64, 65, 127, 128, 129, 200} {
		b := counted(n)
		want := Digest(crypto.Sum(b))
		for i := 0; i <= n; i++ {
			for j := i; j <= n; j += 5 {
				if got := Of(b[:i], b[i:j], b[j:]); got != want {
					t.Fatalf("%d bytes cut at %d and %d: %x, not %x", n, i, j, got, want)
				}
			}
		}
	}
}

func TestAnyPieces(t *testing.T) { // P4.3, P4.1
	r := rand.New(rand.NewSource(4))
	for range 300 {
		b := counted(r.Intn(1000))
		want := Digest(crypto.Sum(b))
		var pieces [][]byte
		var h Hash
		for left := b; len(left) > 0; {
			n := min(r.Intn(140), len(left))
			pieces = append(pieces, left[:n])
			h.Write(left[:n])
			left = left[n:]
		}
		if Of(pieces...) != want || h.Sum() != want {
			t.Fatalf("%d bytes in %d pieces: another digest", len(b), len(pieces))
		}
	}
}

func TestTheOrderOfPiecesMatters(t *testing.T) { // P4.1: one behind the other
	a, b := []byte("ab"), []byte("c")
	if Of(a, b) != Of([]byte("abc")) || Of(b, a) != Of([]byte("cab")) || Of(a, b) == Of(b, a) {
		t.Fatal("the pieces don't stand one behind the other")
	}
}

func TestSame(t *testing.T) { // P4.2
	for _, c := range []struct {
		a, b []byte
		want bool
	}{
		{nil, nil, true},
		{nil, []byte{}, true},
		{[]byte{}, nil, true},
		{[]byte{}, []byte{}, true},
		{nil, []byte{0}, false},
		{[]byte{0}, nil, false},
		{[]byte{0}, []byte{0}, true},
		{[]byte{0}, []byte{0, 0}, false},
		{[]byte{1, 2}, []byte{1}, false},
		{[]byte{1}, []byte{1, 2}, false},
		{[]byte{1, 2}, []byte{1, 2}, true},
		{[]byte{1, 2}, []byte{2, 1}, false},
		{[]byte{1, 2, 3}, []byte{1, 2, 2}, false},
		{[]byte{7, 7}, []byte{6, 6}, false}, // two differences don't make up for each other
		{[]byte{0, 255}, []byte{255, 0}, false},
	} {
		if got := Same(c.a, c.b); got != c.want {
			t.Errorf("Same(%v, %v): %v", c.a, c.b, got)
		}
	}
}

func TestSameButForABit(t *testing.T) { // P4.2
	a := counted(40)
	for bit := range 8 * len(a) {
		b := slices.Clone(a)
		if !Same(a, b) {
			t.Fatal("a copy isn't the same")
		}
		b[bit/8] ^= 1 << (bit % 8)
		if Same(a, b) || Same(b, a) {
			t.Fatalf("the bit %d isn't seen", bit)
		}
	}
}
