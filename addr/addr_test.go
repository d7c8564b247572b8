package addr

import (
	"fmt"
	"math"
	"math/rand"
	"strings"
	"testing"

	"catwalk/api"
)

// at: the address of four numbers.
func at(a, b, c, d int) api.Addr { return api.Addr(a<<24 | b<<16 | c<<8 | d) }

func TestBytesAndOf(t *testing.T) { // P6.1
	for _, c := range []struct {
		a api.Addr
		b [4]byte
	}{
		{0x0a000001, [4]byte{10, 0, 0, 1}},
		{0, [4]byte{}},
		{math.MaxUint32, [4]byte{255, 255, 255, 255}},
		{0x01020304, [4]byte{1, 2, 3, 4}},
		{0x80000000, [4]byte{128, 0, 0, 0}},
		{0xff, [4]byte{0, 0, 0, 255}},
		{0xff00, [4]byte{0, 0, 255, 0}},
		{0xff0000, [4]byte{0, 255, 0, 0}},
		{0xff000000, [4]byte{255, 0, 0, 0}},
	} {
		if got := Bytes(c.a); got != c.b {
			t.Errorf("Bytes(%x): %v", uint32(c.a), got)
		}
		if got := Of(c.b); got != c.a {
			t.Errorf("Of(%v): %x", c.b, uint32(got))
		}
	}
}

func TestText(t *testing.T) { // P6.1
	for a, want := range map[api.Addr]string{
		0x0a000001:     "10.0.0.1", // the chapter's example
		0:              "0.0.0.0",
		math.MaxUint32: "255.255.255.255",
		0x01020304:     "1.2.3.4",
		0x7f000001:     "127.0.0.1",
		0xc0a8640a:     "192.168.100.10",
		0x6409ff00:     "100.9.255.0",
	} {
		if got := Text(a); got != want {
			t.Errorf("Text(%x): %q, not %q", uint32(a), got, want)
		}
	}
}

func TestEachNumberInEachPlace(t *testing.T) { // P6.1
	for n := range 256 {
		for place := range 4 {
			b := [4]byte{1, 22, 133, 244}
			b[place] = byte(n)
			text := fmt.Sprintf("%d.%d.%d.%d", b[0], b[1], b[2], b[3])
			a := Of(b)
			if Text(a) != text || Bytes(a) != b {
				t.Fatalf("of %v: %q, %v", b, Text(a), Bytes(a))
			}
			if got, err := Read(text); got != a || err != api.OK {
				t.Fatalf("Read(%q): %x, %v", text, uint32(got), err)
			}
		}
	}
}

func TestReadOfTexts(t *testing.T) { // P6.1
	r := rand.New(rand.NewSource(6))
	for range 5000 {
		a := api.Addr(r.Uint32())
		if got, err := Read(Text(a)); got != a || err != api.OK {
			t.Fatalf("Read(%q): %x, %v", Text(a), uint32(got), err)
		}
	}
}

func TestReadOfNone(t *testing.T) { // P6.1
	for _, s := range []string{
		"", ".", "...", "....", "1", "1.2", "1.2.3", "1.2.3.", ".1.2.3", ".1.2.3.4", "1.2.3.4.", "1.2.3.4.5", "1..3.4", "1.2..3.4", "1.2.3.4.0",
		"256.2.3.4", "1.256.3.4", "1.2.256.4", "1.2.3.256", "1.2.3.999", "1.2.3.1000", "1.2.3.65537", "1.2.3.4294967296", "1.2.3.1099511627776",
		"1.2.3.99999999999999999999", "1.2.3.18446744073709551617",
		"01.2.3.4", "1.02.3.4", "1.2.003.4", "1.2.3.04", "00.0.0.0", "0.0.0.00",
		"-1.2.3.4", "1.2.3.-4", "+1.2.3.4", "1.2.3.+4", "1.2.3.-0",
		" 1.2.3.4", "1.2.3.4 ", "1. 2.3.4", "1.2 .3.4", "1.2.3.4\n", "\t1.2.3.4", "1.2.3.4\x00",
		"1,2,3,4", "1:2:3:4", "1.2.3,4", "1.2.3.a", "a.b.c.d", "0x1.2.3.4", "1.2.3.4e0", "1.2.3.1_0", "1.2.3.٣", "1.2.3.\xff",
		"0a000001", "167772161", "1.2.3.4/8", "::1",
		strings.Repeat("1.", 3000) + "1", strings.Repeat("0", 100) + ".0.0.0",
	} {
		if got, err := Read(s); got != 0 || err != api.ErrForm {
			t.Errorf("Read(%.40q) isn't refused: %x, %v", s, uint32(got), err)
		}
	}
}

func TestReadIsOfTextsAlone(t *testing.T) { // P6.1: what is read is the Text of what it answers
	r := rand.New(rand.NewSource(61))
	const letters = "0123459.. -a"
	read := 0
	for range 200000 {
		b := []byte(Text(api.Addr(r.Uint32())))
		for range 1 + r.Intn(3) {
			i := r.Intn(len(b))
			switch r.Intn(3) {
			case 0:
				b[i] = letters[r.Intn(len(letters))]
			case 1:
				b = append(b[:i], b[i+1:]...)
			default:
				b = append(b[:i], append([]byte{letters[r.Intn(len(letters))]}, b[i:]...)...)
			}
			if len(b) == 0 {
				b = []byte{'.'}
			}
		}
		s := string(b)
		a, err := Read(s)
		if err == api.OK && Text(a) != s {
			t.Fatalf("Read(%q): %x, which is %q", s, uint32(a), Text(a))
		}
		if err != api.OK && (a != 0 || err != api.ErrForm) {
			t.Fatalf("Read(%q): %x, %v", s, uint32(a), err)
		}
		if err == api.OK {
			read++
		}
	}
	if read == 0 {
		t.Fatal("none was read")
	}
}

func TestHost(t *testing.T) { // P6.2
	for first := range 256 {
		want := first != 0 && first != 127 && first < 224
		for _, a := range []api.Addr{at(first, 0, 0, 0), at(first, 0, 0, 1), at(first, 127, 224, 0), at(first, 255, 255, 255)} {
			if got := Host(a); got != want {
				t.Errorf("Host(%s): %v", Text(a), got)
			}
		}
	}
}

func TestNext(t *testing.T) { // P6.2
	const last = math.MaxUint32
	for _, c := range []struct {
		a    api.Addr
		n    int
		want api.Addr
		ok   bool
	}{
		{at(10, 0, 0, 1), 0, at(10, 0, 0, 1), true},
		{at(10, 0, 0, 1), 1, at(10, 0, 0, 2), true},
		{at(10, 0, 0, 255), 1, at(10, 0, 1, 0), true},
		{at(10, 255, 255, 255), 2, at(11, 0, 0, 1), true},
		{at(10, 0, 0, 0), 1 << 24, at(11, 0, 0, 0), true},
		{0, 0, 0, true},
		{0, last, last, true},
		{0, last + 1, 0, false},
		{1, last - 1, last, true},
		{1, last, 0, false},
		{last, 0, last, true},
		{last, 1, 0, false},
		{last - 1, 1, last, true},
		{last - 1, 2, 0, false},
		{at(128, 0, 0, 0), 1 << 31, 0, false},
		{at(128, 0, 0, 0), 1<<31 - 1, last, true},
		{0, -1, 0, false},
		{at(10, 0, 0, 1), -1, 0, false},
		{last, -1, 0, false},
		{5, -last - 1, 0, false}, // the low 32 bits of these are 0
		{5, 1 << 32, 0, false},
		{5, 1<<32 + 1, 0, false},
		{5, math.MaxInt, 0, false},
		{last, math.MaxInt, 0, false},
		{5, math.MinInt, 0, false},
		{0, math.MinInt, 0, false},
	} {
		if got, ok := Next(c.a, c.n); got != c.want || ok != c.ok {
			t.Errorf("Next(%s, %d): %s, %v", Text(c.a), c.n, Text(got), ok)
		}
	}
}

func TestNextOfAny(t *testing.T) { // P6.2
	r := rand.New(rand.NewSource(62))
	for range 20000 {
		a, n := api.Addr(r.Uint32()), int(r.Int63n(1<<33))-1<<30
		sum := int64(a) + int64(n)
		want, right := api.Addr(sum), n >= 0 && sum <= math.MaxUint32
		if !right {
			want = 0
		}
		if got, ok := Next(a, n); got != want || ok != right {
			t.Fatalf("Next(%s, %d): %s, %v", Text(a), n, Text(got), ok)
		}
	}
}
