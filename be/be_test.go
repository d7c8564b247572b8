package be

import (
	"bytes"
	"math"
	"testing"
)

// wrongSizes are sizes that no number has.
var wrongSizes = []int{math.MinInt, -8, -1, 0, 9, 16, 64, math.MaxInt}

func TestPutFixedSizes(t *testing.T) { // P1.1
	head := []byte{9, 8}
	for _, c := range []struct {
		name      string
		got, want []byte
	}{
		{"8", Put8(head, 200), []byte{9, 8, 200}},
		{"8 of 0", Put8(head, 0), []byte{9, 8, 0}},
		{"8 of nil", Put8(nil, 255), []byte{255}},
		{"16", Put16(head, 258), []byte{9, 8, 1, 2}},
		{"16 of nil", Put16(nil, 258), []byte{1, 2}},
		{"16 of empty", Put16([]byte{}, 0xfffe), []byte{255, 254}},
		{"16 of 0", Put16(nil, 0), []byte{0, 0}},
		{"32", Put32(head, 0x01020304), []byte{9, 8, 1, 2, 3, 4}},
		{"32 greatest", Put32(nil, math.MaxUint32), []byte{255, 255, 255, 255}},
		{"32 of 1", Put32(nil, 1), []byte{0, 0, 0, 1}},
	} {
		if !bytes.Equal(c.got, c.want) {
			t.Errorf("Put%s: %v, not %v", c.name, c.got, c.want)
		}
	}
}

func TestPutOfAnySize(t *testing.T) { // P1.1
	const n = 0x0102030405060708
	all := []byte{1, 2, 3, 4, 5, 6, 7, 8}
	for size := 1; size <= 8; size++ {
		want := append([]byte{77}, all[8-size:]...)
		if got := Put([]byte{77}, n, size); !bytes.Equal(got, want) {
			t.Errorf("Put of size %d: %v, not %v", size, got, want)
		}
		want = bytes.Repeat([]byte{255}, size)
		if got := Put(nil, math.MaxUint64, size); !bytes.Equal(got, want) {
			t.Errorf("Put of the greatest, size %d: %v", size, got)
		}
	}
}

func TestPutOfWrongSizeIsTheBytesAlone(t *testing.T) { // P1.1
	for _, size := range wrongSizes {
		if got := Put([]byte{5, 6}, 1, size); !bytes.Equal(got, []byte{5, 6}) {
			t.Errorf("size %d: %v", size, got)
		}
		if got := Put(nil, 1, size); len(got) != 0 {
			t.Errorf("size %d of nil: %v", size, got)
		}
	}
}

func TestPutAnswersNewMemory(t *testing.T) { // rule 5
	puts := map[string]func([]byte) []byte{
		"Put8":           func(b []byte) []byte { return Put8(b, 1) },
		"Put16":          func(b []byte) []byte { return Put16(b, 0x0101) },
		"Put32":          func(b []byte) []byte { return Put32(b, 0x01010101) },
		"Put":            func(b []byte) []byte { return Put(b, math.MaxUint64, 8) },
		"Put wrong size": func(b []byte) []byte { return Put(b, 1, 0) },
	}
	for name, put := range puts {
		room := bytes.Repeat([]byte{3}, 16)
		got := put(room[:4])
		for i := range got {
			got[i] = 99
		}
		if !bytes.Equal(room, bytes.Repeat([]byte{3}, 16)) {
			t.Errorf("%s turned what was handed in: %v", name, room)
		}
	}
}

func TestPutTwiceOnOneHead(t *testing.T) { // rule 5
	head := make([]byte, 1, 32)
	a := Put32(head, 0x01010101)
	b := Put32(head, 0x02020202)
	if !bytes.Equal(a, []byte{0, 1, 1, 1, 1}) || !bytes.Equal(b, []byte{0, 2, 2, 2, 2}) {
		t.Fatal(a, b)
	}
}

func TestGet(t *testing.T) { // P1.1
	for _, c := range []struct {
		b   []byte
		n16 uint16
		n32 uint32
	}{
		{nil, 0, 0},
		{[]byte{}, 0, 0},
		{[]byte{7}, 0, 0},
		{[]byte{1, 2}, 258, 0},
		{[]byte{1, 2, 3}, 258, 0},
		{[]byte{1, 2, 3, 4}, 258, 0x01020304},
		{[]byte{1, 2, 3, 4, 5}, 258, 0x01020304},
		{[]byte{255, 255, 255, 255}, math.MaxUint16, math.MaxUint32},
		{[]byte{0, 0, 0, 1}, 0, 1},
	} {
		if got := Get16(c.b); got != c.n16 {
			t.Errorf("Get16(%v): %d, not %d", c.b, got, c.n16)
		}
		if got := Get32(c.b); got != c.n32 {
			t.Errorf("Get32(%v): %d, not %d", c.b, got, c.n32)
		}
	}
}

// expect holds a reader against how many bytes it should have, and whether it is bad.
func expect(t *testing.T, when string, r *Reader, left int, bad bool) {
	t.Helper()
	if r.Left() != left || r.Bad() != bad {
		t.Fatalf("%s: left %d, bad %v; not %d, %v", when, r.Left(), r.Bad(), left, bad)
	}
}

func TestReaderReadsFromTheFront(t *testing.T) { // P1.2
	b := make([]byte, 21)
	for i := range b {
		b[i] = byte(i + 1)
	}
	r := New(b)
	expect(t, "at first", r, 21, false)
	if n := r.U8(); n != 1 {
		t.Fatal("U8", n)
	}
	if n := r.U16(); n != 0x0203 {
		t.Fatal("U16", n)
	}
	if n := r.U32(); n != 0x04050607 {
		t.Fatal("U32", n)
	}
	expect(t, "behind seven", r, 14, false)
	if n := r.Num(3); n != 0x08090a {
		t.Fatal("Num(3)", n)
	}
	if got := r.Take(2); !bytes.Equal(got, []byte{11, 12}) {
		t.Fatal("Take", got)
	}
	if n := r.Num(8); n != 0x0d0e0f1011121314 {
		t.Fatal("Num(8)", n)
	}
	if got := r.Rest(); !bytes.Equal(got, []byte{21}) {
		t.Fatal("Rest", got)
	}
	expect(t, "at the end", r, 0, false)
}

func TestReaderNumOfEachSize(t *testing.T) { // P1.2
	b := []byte{1, 2, 3, 4, 5, 6, 7, 8}
	want := uint64(0)
	for size := 1; size <= 8; size++ {
		want = want*256 + uint64(size)
		r := New(b)
		if n := r.Num(size); n != want {
			t.Errorf("Num(%d): %x, not %x", size, n, want)
		}
		expect(t, "behind a number", r, 8-size, false)
	}
}

func TestReaderThatHasJustEnough(t *testing.T) { // P1.2
	reads := map[int]func(*Reader){
		1: func(r *Reader) { r.U8() },
		2: func(r *Reader) { r.U16() },
		4: func(r *Reader) { r.U32() },
		5: func(r *Reader) { r.Take(5) },
		7: func(r *Reader) { r.Num(7) },
	}
	for size, read := range reads {
		r := New(make([]byte, size))
		read(r)
		expect(t, "just enough", r, 0, false)
		r = New(make([]byte, size-1))
		read(r)
		expect(t, "one byte fewer", r, size-1, true)
	}
}

func TestReaderOfNothing(t *testing.T) { // P1.2
	for _, b := range [][]byte{nil, {}} {
		r := New(b)
		if got := r.Take(0); len(got) != 0 {
			t.Fatal("Take(0)", got)
		}
		if got := r.Rest(); len(got) != 0 {
			t.Fatal("Rest", got)
		}
		expect(t, "nothing asked of nothing", r, 0, false)
		if n := r.U8(); n != 0 {
			t.Fatal("U8", n)
		}
		expect(t, "a byte asked of nothing", r, 0, true)
	}
}

// isSpent asks a reader that is bad for everything: it must give nothing, and keep what it has.
func isSpent(t *testing.T, when string, r *Reader, left int) {
	t.Helper()
	expect(t, when, r, left, true)
	if r.U8() != 0 || r.U16() != 0 || r.U32() != 0 || r.Num(1) != 0 {
		t.Fatalf("%s: a bad reader reads numbers", when)
	}
	if len(r.Take(0)) != 0 || len(r.Take(1)) != 0 || len(r.Rest()) != 0 {
		t.Fatalf("%s: a bad reader reads bytes", when)
	}
	expect(t, when+", asked again", r, left, true)
}

func TestReaderIsBadFromThenOn(t *testing.T) { // P1.2
	b := []byte{1, 2, 3}
	for name, read := range map[string]func(*Reader) bool{
		"U32":       func(r *Reader) bool { return r.U32() == 0 },
		"Num(4)":    func(r *Reader) bool { return r.Num(4) == 0 },
		"Num(8)":    func(r *Reader) bool { return r.Num(8) == 0 },
		"Take(4)":   func(r *Reader) bool { return len(r.Take(4)) == 0 },
		"Take(-1)":  func(r *Reader) bool { return len(r.Take(-1)) == 0 },
		"Take(max)": func(r *Reader) bool { return len(r.Take(math.MaxInt)) == 0 },
		"Take(min)": func(r *Reader) bool { return len(r.Take(math.MinInt)) == 0 },
	} {
		r := New(b)
		if !read(r) {
			t.Errorf("%s isn't nothing", name)
		}
		isSpent(t, name, r, 3)
	}
	for _, size := range wrongSizes {
		r := New(make([]byte, 100))
		if r.Num(size) != 0 {
			t.Errorf("Num(%d) isn't 0", size)
		}
		isSpent(t, "a wrong size", r, 100)
	}
}

func TestReaderIsBadInTheMiddle(t *testing.T) { // P1.2
	r := New([]byte{1, 2, 3, 4, 5})
	if r.U16() != 0x0102 || r.U32() != 0 {
		t.Fatal("read over the end")
	}
	isSpent(t, "in the middle", r, 3)
}

func TestReaderAnswersNewMemory(t *testing.T) { // rule 5
	b := []byte{1, 2, 3, 4}
	r := New(b)
	x, y := r.Take(2), r.Rest()
	x[0], y[0] = 99, 99
	_ = append(x, 88)
	if !bytes.Equal(b, []byte{1, 2, 3, 4}) || y[1] != 4 {
		t.Fatal(b, x, y)
	}
}

func TestReadersAreApart(t *testing.T) { // P2
	b := []byte{1, 2, 3}
	r, s := New(b), New(b)
	r.Take(9)
	if s.U16() != 0x0102 || s.Bad() || !r.Bad() {
		t.Fatal("one reader hangs on another")
	}
}

// numbers are such as have their bits at the edges of bytes, and others.
func numbers() []uint64 {
	l := []uint64{0, math.MaxUint64, 0x0123456789abcdef}
	for i := range 64 {
		l = append(l, 1<<i, 1<<i-1, 0x9e3779b97f4a7c15*uint64(i+1))
	}
	return l
}

func TestWhatWasPutIsRead(t *testing.T) { // P1.3
	for size := 1; size <= 8; size++ {
		var b []byte
		for _, n := range numbers() {
			b = Put(b, n, size)
		}
		r := New(b)
		for _, n := range numbers() {
			want := n
			if size < 8 {
				want = n % (1 << (8 * size))
			}
			if got := r.Num(size); got != want {
				t.Fatalf("size %d: %x, not %x", size, got, want)
			}
		}
		expect(t, "all is read", r, 0, false)
	}
}

func TestWhatWasPutIsReadByEachName(t *testing.T) { // P1.3
	for _, n := range numbers() {
		tail := []byte{1, 2, 3}
		b := Put32(Put16(Put8(nil, uint8(n)), uint16(n)), uint32(n))
		r := New(append(b, tail...))
		if r.U8() != uint8(n) || r.U16() != uint16(n) || r.U32() != uint32(n) {
			t.Fatalf("%x isn't read as it was", n)
		}
		if !bytes.Equal(r.Rest(), tail) || r.Bad() {
			t.Fatalf("behind %x", n)
		}
		if Get16(Put16(nil, uint16(n))) != uint16(n) || Get32(Put32(nil, uint32(n))) != uint32(n) {
			t.Fatalf("Get of %x", n)
		}
	}
}
