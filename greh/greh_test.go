package greh

import (
	"bytes"
	"fmt"
	"math"
	"math/rand"
	"slices"
	"testing"

	"catwalk/api"
)

// count: so many bytes, that go up.
func count(n int) []byte {
	b := make([]byte, n)
	for i := range b {
		b[i] = byte(i*7 + 1)
	}
	return b
}

// equal: are two packets the same?
func equal(a, b api.Tunnel) bool {
	return a.Call == b.Call && a.HasSeq == b.HasSeq && a.Seq == b.Seq && a.HasAck == b.HasAck && a.Ack == b.Ack && bytes.Equal(a.Data, b.Data)
}

// none: is it the zero packet?
func none(p api.Tunnel) bool { return equal(p, api.Tunnel{}) }

func TestProto(t *testing.T) { // P11.1
	if Proto != 0x880b {
		t.Fatal(Proto)
	}
}

func TestRight(t *testing.T) { // P11.1
	for _, c := range []struct {
		p    api.Tunnel
		want bool
	}{
		{api.Tunnel{}, true}, // neither number, no data
		{api.Tunnel{Call: 65535}, true},
		{api.Tunnel{HasAck: true}, true},
		{api.Tunnel{HasAck: true, Ack: math.MaxUint32}, true},
		{api.Tunnel{HasAck: true, Data: []byte{}}, true},
		{api.Tunnel{Ack: 1}, false},
		{api.Tunnel{Ack: math.MaxUint32}, false},
		{api.Tunnel{Ack: 1 << 31}, false},
		{api.Tunnel{Seq: 1}, false},
		{api.Tunnel{Seq: 1, HasAck: true}, false},
		{api.Tunnel{Seq: 1 << 31, HasAck: true, Ack: 1}, false},
		{api.Tunnel{Data: []byte{1}}, false},
		{api.Tunnel{Data: []byte{0}}, false},
		{api.Tunnel{HasAck: true, Ack: 5, Data: []byte{1}}, false},
		{api.Tunnel{HasSeq: true}, false},
		{api.Tunnel{HasSeq: true, Seq: 1}, false},
		{api.Tunnel{HasSeq: true, Seq: 1, Data: []byte{}}, false},
		{api.Tunnel{HasSeq: true, Seq: 1, HasAck: true, Ack: 2}, false},
		{api.Tunnel{HasSeq: true, Data: []byte{1}}, true},
		{api.Tunnel{HasSeq: true, Seq: math.MaxUint32, Data: []byte{0}}, true},
		{api.Tunnel{HasSeq: true, Seq: 1, Ack: 1, Data: []byte{1}}, false},
		{api.Tunnel{HasSeq: true, Seq: 1, HasAck: true, Ack: 1, Data: []byte{1}}, true},
		{api.Tunnel{HasSeq: true, HasAck: true, Data: []byte{1}}, true},
		{api.Tunnel{HasSeq: true, Data: count(1599)}, true},
		{api.Tunnel{HasSeq: true, Data: count(1600)}, true},
		{api.Tunnel{HasSeq: true, Data: count(1601)}, false},
		{api.Tunnel{HasSeq: true, HasAck: true, Ack: 9, Data: count(1601)}, false},
		{api.Tunnel{HasSeq: true, Data: count(65536)}, false},
		{api.Tunnel{HasSeq: true, Data: count(65537)}, false},
		{api.Tunnel{Data: count(1601)}, false},
	} {
		if got := Right(c.p); got != c.want {
			t.Errorf("Right of %+v: %v", c.p, got)
		}
		if got := Build(c.p); (len(got) > 0) != c.want {
			t.Errorf("Build of %+v: %v", c.p, got)
		}
	}
}

func TestBuild(t *testing.T) { // P11.1
	for _, c := range []struct {
		p    api.Tunnel
		want []byte
	}{
		{api.Tunnel{Call: 7, HasAck: true, Ack: 5}, []byte{32, 129, 136, 11, 0, 0, 0, 7, 0, 0, 0, 5}}, // the chapter's example
		{api.Tunnel{}, []byte{32, 1, 136, 11, 0, 0, 0, 0}},
		{api.Tunnel{Call: 0x1234}, []byte{32, 1, 136, 11, 0, 0, 0x12, 0x34}},
		{api.Tunnel{Call: 0x1234, HasSeq: true, Seq: 0x01020304, Data: []byte{9, 8}}, []byte{48, 1, 136, 11, 0, 2, 0x12, 0x34, 1, 2, 3, 4, 9, 8}},
		{api.Tunnel{Call: 0x1234, HasSeq: true, Seq: 0x01020304, HasAck: true, Ack: 0x05060708, Data: []byte{9}}, []byte{48, 129, 136, 11, 0, 1, 0x12, 0x34, 1, 2, 3, 4, 5, 6, 7, 8, 9}},
		{api.Tunnel{HasSeq: true, HasAck: true, Data: []byte{0}}, []byte{48, 129, 136, 11, 0, 1, 0, 0, 0, 0, 0, 0, 0, 0, 0, 0, 0}},
		{api.Tunnel{Call: 65535, HasAck: true, Ack: math.MaxUint32}, []byte{32, 129, 136, 11, 0, 0, 255, 255, 255, 255, 255, 255}},
		{api.Tunnel{Call: 1, HasSeq: true, Data: count(0x0123)}, append([]byte{48, 1, 136, 11, 1, 0x23, 0, 1, 0, 0, 0, 0}, count(0x0123)...)},
		{api.Tunnel{Call: 1, HasSeq: true, Data: count(1600)}, append([]byte{48, 1, 136, 11, 6, 64, 0, 1, 0, 0, 0, 0}, count(1600)...)},
	} {
		if got := Build(c.p); !bytes.Equal(got, c.want) {
			t.Errorf("Build(%+v): %v, not %v", c.p, got, c.want)
		}
		if got, err := Parse(c.want); !equal(got, c.p) || err != api.OK {
			t.Errorf("Parse(%v): %+v, %v", c.want, got, err)
		}
	}
}

func TestParseOfNone(t *testing.T) { // P11.2
	for _, c := range []struct {
		why  string
		b    []byte
		want api.Errno
	}{
		{"nothing", nil, api.ErrShort},
		{"nothing", []byte{}, api.ErrShort},
		{"seven bytes", []byte{32, 1, 136, 11, 0, 0, 0}, api.ErrShort},
		{"seven bytes of other bits and another protocol", []byte{0, 0, 8, 0, 0, 0, 0}, api.ErrShort},
		{"another protocol", []byte{32, 1, 8, 0, 0, 0, 0, 7}, api.ErrForm},
		{"another protocol, its high byte", []byte{32, 1, 137, 11, 0, 0, 0, 7}, api.ErrForm},
		{"another protocol, its low byte", []byte{32, 1, 136, 10, 0, 0, 0, 7}, api.ErrForm},
		{"no bits", []byte{0, 0, 136, 11, 0, 0, 0, 7}, api.ErrForm},
		{"no key", []byte{0, 1, 136, 11, 0, 0, 0, 7}, api.ErrForm},
		{"version 0", []byte{32, 0, 136, 11, 0, 0, 0, 7}, api.ErrForm},
		{"version 0, an ack", []byte{32, 128, 136, 11, 0, 0, 0, 7, 0, 0, 0, 5}, api.ErrForm},
		{"version 3", []byte{32, 3, 136, 11, 0, 0, 0, 7}, api.ErrForm},
		{"all bits", []byte{255, 255, 136, 11, 0, 0, 0, 7}, api.ErrForm},
		{"other bits, ahead of bytes that are missing", []byte{48, 0, 136, 11, 0, 9, 0, 7}, api.ErrForm},
		{"another protocol, ahead of bytes that are missing", []byte{48, 1, 136, 12, 0, 9, 0, 7}, api.ErrForm},
		{"no sequence number, though it says so", []byte{48, 1, 136, 11, 0, 0, 0, 7}, api.ErrShort},
		{"three bytes of a sequence number", []byte{48, 1, 136, 11, 0, 0, 0, 7, 1, 2, 3}, api.ErrShort},
		{"no ack, though it says so", []byte{32, 129, 136, 11, 0, 0, 0, 7}, api.ErrShort},
		{"three bytes of an ack", []byte{32, 129, 136, 11, 0, 0, 0, 7, 1, 2, 3}, api.ErrShort},
		{"one number of two", []byte{48, 129, 136, 11, 0, 0, 0, 7, 1, 2, 3, 4}, api.ErrShort},
		{"seven bytes of two numbers", []byte{48, 129, 136, 11, 0, 0, 0, 7, 1, 2, 3, 4, 5, 6, 7}, api.ErrShort},
		{"data are missing", []byte{48, 1, 136, 11, 0, 1, 0, 7, 1, 2, 3, 4}, api.ErrShort},
		{"a byte of data is missing", []byte{48, 1, 136, 11, 0, 3, 0, 7, 1, 2, 3, 4, 9, 9}, api.ErrShort},
		{"many data are missing", []byte{48, 1, 136, 11, 255, 255, 0, 7, 1, 2, 3, 4, 9, 9}, api.ErrShort},
		{"data are missing, without a sequence number", []byte{32, 1, 136, 11, 0, 1, 0, 7}, api.ErrShort},
		{"data are missing, behind an ack", []byte{32, 129, 136, 11, 0, 2, 0, 7, 0, 0, 0, 5, 1}, api.ErrShort},
		{"a byte more", []byte{32, 1, 136, 11, 0, 0, 0, 7, 0}, api.ErrForm},
		{"a byte more than an ack", []byte{32, 129, 136, 11, 0, 0, 0, 7, 0, 0, 0, 5, 0}, api.ErrForm},
		{"a byte more than data", []byte{48, 1, 136, 11, 0, 1, 0, 7, 1, 2, 3, 4, 9, 9}, api.ErrForm},
		{"data without a sequence number", []byte{32, 1, 136, 11, 0, 1, 0, 7, 9}, api.ErrForm},
		{"data without a sequence number, with an ack", []byte{32, 129, 136, 11, 0, 1, 0, 7, 0, 0, 0, 5, 9}, api.ErrForm},
		{"a sequence number without data", []byte{48, 1, 136, 11, 0, 0, 0, 7, 1, 2, 3, 4}, api.ErrForm},
		{"both numbers without data", []byte{48, 129, 136, 11, 0, 0, 0, 7, 1, 2, 3, 4, 5, 6, 7, 8}, api.ErrForm},
		{"a sequence number without data, and bytes more", []byte{48, 1, 136, 11, 0, 0, 0, 7, 1, 2, 3, 4, 5}, api.ErrForm},
	} {
		if got, err := Parse(c.b); !none(got) || err != c.want {
			t.Errorf("%s: Parse(%v): %+v, %v, not %v", c.why, c.b, got, err, c.want)
		}
	}
}

func TestEachBit(t *testing.T) { // P11.2: of the first two bytes, only two bits may be there or not
	for bits := range 65536 {
		b := []byte{byte(bits >> 8), byte(bits), 136, 11, 0, 0, 0, 7}
		want := api.Errno(api.ErrForm)
		switch bits {
		case 8193:
			want = api.OK
		case 8193 + 4096, 8193 + 128, 8193 + 4096 + 128:
			want = api.ErrShort // the numbers are missing
		}
		got, err := Parse(b)
		if err != want || (err == api.OK) != (got.Call == 7) {
			t.Errorf("the bits %x: %+v, %v", bits, got, err)
		}
	}
}

func TestEachProtocol(t *testing.T) { // P11.2
	for n := range 65536 {
		got, err := Parse([]byte{32, 1, byte(n >> 8), byte(n), 0, 0, 0, 7})
		if (err == api.OK) != (n == 0x880b) || err != api.OK && (err != api.ErrForm || !none(got)) {
			t.Errorf("the protocol %x: %+v, %v", n, got, err)
		}
	}
}

func TestParseOfManyData(t *testing.T) { // P11.2: how many data there may be, Parse doesn't ask
	for _, n := range []int{1600, 1601, 32768, 65535} {
		b := append([]byte{48, 129, 136, 11, byte(n >> 8), byte(n), 1, 2, 0, 0, 0, 3, 0, 0, 0, 4}, count(n)...)
		want := api.Tunnel{Call: 258, HasSeq: true, Seq: 3, HasAck: true, Ack: 4, Data: count(n)}
		if got, err := Parse(b); err != api.OK || !equal(got, want) {
			t.Errorf("%d data: %d, %v", n, len(got.Data), err)
		}
		if got, err := Parse(b[:len(b)-1]); err != api.ErrShort || !none(got) {
			t.Errorf("%d data, one missing: %d, %v", n, len(got.Data), err)
		}
		if got, err := Parse(append(b, 0)); err != api.ErrForm || !none(got) {
			t.Errorf("%d data, one more: %d, %v", n, len(got.Data), err)
		}
	}
}

// kinds: packets that are Right, of each kind that there is.
func kinds() []api.Tunnel {
	var l []api.Tunnel
	for _, call := range []uint16{0, 1, 255, 256, 65535} {
		for _, n := range []uint32{0, 1, 0x80, 0x0100, 0x00ff00ff, 1 << 31, math.MaxUint32} {
			l = append(l, api.Tunnel{Call: call}, api.Tunnel{Call: call, HasAck: true, Ack: n})
			for _, size := range []int{1, 2, 255, 256, 1599, 1600} {
				l = append(l,
					api.Tunnel{Call: call, HasSeq: true, Seq: n, Data: count(size)},
					api.Tunnel{Call: call, HasSeq: true, Seq: n, HasAck: true, Ack: ^n, Data: count(size)})
			}
		}
	}
	return l
}

func TestWhatWasBuiltIsParsed(t *testing.T) { // P11.3
	for _, p := range kinds() {
		if !Right(p) {
			t.Fatalf("not right: %+v", p)
		}
		got, err := Parse(Build(p))
		if err != api.OK || !equal(got, p) {
			t.Fatalf("%+v became %+v, %v", p, got, err)
		}
	}
}

func TestEachCut(t *testing.T) { // P11.2: a packet that ends too early, or too late
	for _, p := range kinds() {
		b := Build(p)
		if len(b) > 300 {
			continue
		}
		for cut := range len(b) {
			if got, err := Parse(b[:cut]); err != api.ErrShort || !none(got) {
				t.Fatalf("%d bytes of %v: %+v, %v", cut, b, got, err)
			}
		}
		for _, more := range [][]byte{{0}, {1, 2, 3, 4}, b} {
			if got, err := Parse(append(slices.Clone(b), more...)); err != api.ErrForm || !none(got) {
				t.Fatalf("%v, and %v: %+v, %v", b, more, got, err)
			}
		}
	}
}

// byWords: what Parse is to answer, by the chapter's words.
func byWords(b []byte) (api.Tunnel, api.Errno) {
	var p api.Tunnel
	if len(b) < 8 {
		return p, api.ErrShort
	}
	at := func(i int) int { return int(b[i])*256 + int(b[i+1]) }
	seq, ack := b[0] == 0x30, b[1] == 0x81
	if !seq && b[0] != 0x20 || !ack && b[1] != 0x01 || at(2) != 0x880b {
		return p, api.ErrForm
	}
	size, place := 8+at(4), 8
	p.Call = uint16(at(6))
	for _, there := range []bool{seq, ack} {
		if there {
			size += 4
		}
	}
	if len(b) < size {
		return api.Tunnel{}, api.ErrShort
	}
	if len(b) > size || seq != (at(4) > 0) {
		return api.Tunnel{}, api.ErrForm
	}
	if p.HasSeq = seq; seq {
		p.Seq = uint32(at(place)*65536 + at(place+2))
		place += 4
	}
	if p.HasAck = ack; ack {
		p.Ack = uint32(at(place)*65536 + at(place+2))
		place += 4
	}
	p.Data = b[place:]
	return p, api.OK
}

func TestParseOfAny(t *testing.T) { // P11.2, P11.3
	r := rand.New(rand.NewSource(11))
	seen := map[string]int{}
	for range 200000 {
		b := []byte{[]byte{0x20, 0x30}[r.Intn(2)], []byte{0x01, 0x81}[r.Intn(2)], 0x88, 0x0b, 0, byte(r.Intn(3)), byte(r.Intn(256)), byte(r.Intn(256))}
		for range r.Intn(12) {
			b = append(b, byte(r.Intn(256)))
		}
		if r.Intn(8) == 0 {
			b[r.Intn(len(b))] ^= 1 << r.Intn(8)
		}
		if r.Intn(8) == 0 {
			b = b[:r.Intn(len(b)+1)]
		}
		want, wrong := byWords(b)
		got, err := Parse(b)
		if !equal(got, want) || err != wrong {
			t.Fatalf("Parse(%v): %+v, %v, not %+v, %v", b, got, err, want, wrong)
		}
		if err == api.OK && !bytes.Equal(Build(got), b) {
			t.Fatalf("%v was built as %v", b, Build(got))
		}
		seen[fmt.Sprint(err, got.HasSeq, got.HasAck)]++
	}
	if len(seen) != 6 { // four kinds, and two errors
		t.Fatal(seen)
	}
}

func TestBuildOfAny(t *testing.T) { // P11.1
	r := rand.New(rand.NewSource(111))
	right := 0
	for range 50000 {
		p := api.Tunnel{Call: uint16(r.Uint32()), HasSeq: r.Intn(2) == 0, HasAck: r.Intn(2) == 0, Data: count(r.Intn(3))}
		if r.Intn(2) == 0 {
			p.Seq = r.Uint32()
		}
		if r.Intn(2) == 0 {
			p.Ack = r.Uint32()
		}
		want := p.HasSeq == (len(p.Data) > 0) && (p.HasSeq || p.Seq == 0) && (p.HasAck || p.Ack == 0)
		b := Build(p)
		if Right(p) != want || (len(b) > 0) != want {
			t.Fatalf("%+v: %v, %v", p, Right(p), b)
		}
		if !want {
			continue
		}
		right++
		if got, err := byWords(b); err != api.OK || !equal(got, p) {
			t.Fatalf("%+v was built as %v", p, b)
		}
	}
	if right == 0 {
		t.Fatal("none was right")
	}
}

func TestParseAnswersNewMemory(t *testing.T) { // rule 5
	b := append(make([]byte, 0, 64), 48, 1, 136, 11, 0, 2, 0, 7, 1, 2, 3, 4, 9, 8)
	was := slices.Clone(b[:64])
	got, _ := Parse(b)
	again, _ := Parse(b)
	got.Data[0] = 99
	_ = append(got.Data, 88, 77)
	if !bytes.Equal(b[:64], was) {
		t.Fatal("what was handed in is turned", b)
	}
	b[12] = 55
	if !bytes.Equal(again.Data, []byte{9, 8}) {
		t.Fatal("two answers hang together, or what was handed in is kept", again)
	}
}

func TestBuildAnswersNewMemory(t *testing.T) { // rule 5
	data := append(make([]byte, 0, 64), 9, 8)
	p := api.Tunnel{HasSeq: true, HasAck: true, Data: data}
	one, two := Build(p), Build(p)
	was := slices.Clone(two)
	for i := range one {
		one[i] = 99
	}
	_ = append(one, 88)
	if !bytes.Equal(data[:4], []byte{9, 8, 0, 0}) {
		t.Fatal("what was handed in is turned", data)
	}
	data[0] = 55
	if !bytes.Equal(two, was) {
		t.Fatal("two answers hang together, or what was handed in is kept", two)
	}
}
