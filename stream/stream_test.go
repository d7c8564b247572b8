package stream

import (
	"bytes"
	"math/rand"
	"slices"
	"strings"
	"testing"

	"catwalk/api"
	"catwalk/msg"
)

// echo: an EchoReq of a number.
func echo(n uint32) api.Message { return msg.Of(msg.EchoReq, n) }

// bytesOf: messages' bytes, one behind the other.
func bytesOf(l ...api.Message) []byte {
	var out []byte
	for _, m := range l {
		out = append(out, msg.Build(m)...)
	}
	return out
}

// turned: an EchoReq's bytes, with others at some places.
func turned(at ...int) []byte {
	b := bytesOf(echo(7))
	for i := 0; i+1 < len(at); i += 2 {
		b[at[i]] = byte(at[i+1])
	}
	return b
}

// full: a message of a type, of which each text is as long as it may be.
func full(kind int) api.Message {
	m := msg.Of(kind, 1, 2, 3, 4, 5, 6, 7, 8, 9)
	for i := range m.T {
		for size := range 129 {
			other := m
			other.T[i] = strings.Repeat("x", size)
			if msg.Right(other) {
				m = other
			}
		}
	}
	return m
}

// feed: Feed answers this.
func feed(t *testing.T, s *Stream, b []byte, want []api.Message, err api.Errno) {
	t.Helper()
	if got, e := s.Feed(b); !slices.Equal(got, want) || e != err {
		t.Errorf("Feed of %d bytes: %+v, %v, not %+v, %v", len(b), got, e, want, err)
	}
}

// is: a Stream tells this.
func is(t *testing.T, s *Stream, left int, why api.Errno, many int) {
	t.Helper()
	if s.Left() != left || s.Why() != why || s.Many() != many {
		t.Errorf("Left %d, Why %v, Many %d, not %d, %v, %d", s.Left(), s.Why(), s.Many(), left, why, many)
	}
}

func TestZero(t *testing.T) { // P27.1
	var s Stream
	is(t, &s, 0, api.OK, 0)
	feed(t, &s, nil, nil, api.OK)
	feed(t, &s, []byte{}, nil, api.OK)
	is(t, &s, 0, api.OK, 0)
}

func TestExample(t *testing.T) { // P27.1: the chapter's
	var s Stream
	b := bytesOf(echo(258))
	feed(t, &s, b[:8], nil, api.OK)
	is(t, &s, 8, api.OK, 0)
	feed(t, &s, b[8:], []api.Message{echo(258)}, api.OK)
	is(t, &s, 0, api.OK, 1)
}

func TestEachType(t *testing.T) { // P27.1: told by the last byte, and by none ahead of it
	for kind := msg.StartReq; kind <= msg.LinkInfo; kind++ {
		for _, m := range []api.Message{msg.Of(kind), msg.Of(kind, 1, 2, 3), full(kind)} {
			var s Stream
			b := bytesOf(m)
			for round := range 3 {
				for i := range len(b) - 1 {
					feed(t, &s, b[i:i+1], nil, api.OK)
					is(t, &s, i+1, api.OK, round)
				}
				feed(t, &s, nil, nil, api.OK)
				feed(t, &s, b[len(b)-1:], []api.Message{m}, api.OK)
				is(t, &s, 0, api.OK, round+1)
			}
		}
	}
}

func TestSeveralAtOnce(t *testing.T) { // P27.1
	var s Stream
	var all []api.Message
	for kind := msg.StartReq; kind <= msg.LinkInfo; kind++ {
		all = append(all, full(kind), msg.Of(kind), echo(uint32(kind)))
	}
	feed(t, &s, bytesOf(all...), all, api.OK)
	is(t, &s, 0, api.OK, 45)
	behind := bytesOf(echo(3))
	feed(t, &s, append(bytesOf(echo(1), echo(2)), behind[:15]...), []api.Message{echo(1), echo(2)}, api.OK)
	is(t, &s, 15, api.OK, 47)
	feed(t, &s, append(behind[15:], bytesOf(echo(4), echo(5))...), []api.Message{echo(3), echo(4), echo(5)}, api.OK)
	is(t, &s, 0, api.OK, 50)
}

func TestVeryMany(t *testing.T) { // P27.1
	var s Stream
	var all []api.Message
	for n := range 50000 {
		all = append(all, echo(uint32(n)))
	}
	b := bytesOf(all...)
	for round := range 3 {
		feed(t, &s, b, all, api.OK)
		is(t, &s, 0, api.OK, 50000*(round+1))
	}
}

// fault is bytes that are no message: why, and so many of them tell it.
type fault struct {
	name string
	b    []byte
	err  api.Errno
	tell int
}

// faults are bytes that are no messages, of each kind.
func faults() []fault {
	long := make([]byte, 300)
	copy(long, turned(0, 0, 1, 220))
	return []fault{
		{"they say 0", turned(1, 0), api.ErrSize, 2},
		{"they say 11", turned(1, 11), api.ErrSize, 2},
		{"they say 221", turned(1, 221), api.ErrSize, 2},
		{"they say 255", turned(1, 255), api.ErrSize, 2},
		{"they say 256", turned(0, 1, 1, 0), api.ErrSize, 2},
		{"they say 272", turned(0, 1), api.ErrSize, 2},
		{"they say 65535", turned(0, 255, 1, 255), api.ErrSize, 2},
		{"the length, the kind, the cookie, the type", turned(1, 11, 3, 2, 4, 0, 9, 0), api.ErrSize, 2},
		{"the length, the cookie", turned(1, 221, 4, 0), api.ErrSize, 2},
		{"a management message", turned(3, 2), api.ErrType, 4},
		{"of the kind 0", turned(3, 0), api.ErrType, 4},
		{"of the kind 256", turned(2, 1, 3, 0), api.ErrType, 4},
		{"of the kind 257", turned(2, 1), api.ErrType, 4},
		{"the kind, the cookie, the type", turned(3, 2, 5, 0, 9, 16), api.ErrType, 4},
		{"the cookie's first byte", turned(4, 27), api.ErrMagic, 8},
		{"its second", turned(5, 42), api.ErrMagic, 8},
		{"its third", turned(6, 0), api.ErrMagic, 8},
		{"its last", turned(7, 76), api.ErrMagic, 8},
		{"the cookie, the type, the noughts", turned(7, 76, 9, 0, 10, 1), api.ErrMagic, 8},
		{"the cookie of a length of 12", turned(1, 12, 7, 76), api.ErrMagic, 8},
		{"the type 0", turned(9, 0), api.ErrType, 16},
		{"the type 16", turned(9, 16), api.ErrType, 16},
		{"the type 261", turned(8, 1), api.ErrType, 16},
		{"the type, the noughts", turned(9, 16, 10, 1), api.ErrType, 16},
		{"the type 0, of a length of 12", turned(1, 12, 9, 0), api.ErrType, 12},
		{"an EchoReq of a length of 12", turned(1, 12), api.ErrSize, 12},
		{"an EchoReq of a length of 13", turned(1, 13), api.ErrSize, 13},
		{"an EchoReq of a length of 15", turned(1, 15), api.ErrSize, 15},
		{"an EchoReq of a length of 17", append(turned(1, 17), 0), api.ErrSize, 17},
		{"an EchoRep of 16", turned(9, msg.EchoRep), api.ErrSize, 16},
		{"an EchoReq of a length of 220", long, api.ErrSize, 220},
		{"the length of another type, the noughts", turned(9, msg.EchoRep, 10, 1), api.ErrSize, 16},
		{"the head's first nought", turned(10, 1), api.ErrForm, 16},
		{"its second", turned(11, 255), api.ErrForm, 16},
		{"a StopReq's noughts", turned(9, msg.StopReq, 15, 1), api.ErrForm, 16},
	}
}

func TestFaultsByteByByte(t *testing.T) { // P27.1: as soon as they tell, and no sooner
	for _, f := range faults() {
		for ahead := range 3 {
			var s Stream
			s.Feed(bytesOf([]api.Message{echo(1), full(msg.InReq)}[:ahead]...))
			for i, c := range f.b {
				want := api.OK
				if i+1 >= f.tell {
					want = f.err
				}
				if got, err := s.Feed([]byte{c}); len(got) != 0 || err != want {
					t.Errorf("%s, byte %d: %+v, %v, not %v", f.name, i, got, err, want)
				}
				is(t, &s, i+1, want, ahead)
			}
		}
	}
}

func TestFaultsAtOnce(t *testing.T) { // P27.1: the messages ahead are told, with the error
	all := []api.Message{echo(1), full(msg.StartReq), echo(2)}
	for _, f := range faults() {
		for ahead := range 4 {
			for _, behind := range [][]byte{nil, {1}, bytesOf(echo(9), echo(10))} {
				for n := 1; n <= len(f.b); n++ {
					b := append(bytesOf(all[:ahead]...), f.b[:n]...)
					want := api.OK
					if n >= f.tell {
						want = f.err
						b = append(b, behind...)
					}
					var s Stream
					if got, err := s.Feed(b); !slices.Equal(got, all[:ahead]) || err != want {
						t.Errorf("%s, %d bytes behind %d messages: %+v, %v, not %v", f.name, n, ahead, got, err, want)
					}
					is(t, &s, len(b)-len(bytesOf(all[:ahead]...)), want, ahead)
				}
			}
		}
	}
}

func TestBehindAnError(t *testing.T) { // P27.1: nothing more is told, with that error
	for _, f := range faults() {
		var s Stream
		feed(t, &s, append(bytesOf(echo(1)), f.b...), []api.Message{echo(1)}, f.err)
		left := len(f.b)
		for _, b := range [][]byte{nil, {}, bytesOf(echo(1)), {0}, bytesOf(echo(1), full(msg.OutReq)), turned(1, 0), turned(3, 2), turned(4, 0), turned(10, 1), make([]byte, 5000)} {
			feed(t, &s, b, nil, f.err)
			left += len(b)
			is(t, &s, left, f.err, 1)
		}
	}
}

func TestEachLength(t *testing.T) { // P27.1
	for said := range 65536 {
		var s Stream
		feed(t, &s, []byte{byte(said >> 8)}, nil, api.OK)
		want := api.OK
		if said < 12 || said > 220 {
			want = api.ErrSize
		}
		feed(t, &s, []byte{byte(said)}, nil, want)
		is(t, &s, 2, want, 0)
	}
}

func TestEachKind(t *testing.T) { // P27.1
	for kind := range 65536 {
		var s Stream
		feed(t, &s, []byte{0, 16, byte(kind >> 8)}, nil, api.OK)
		want := api.OK
		if kind != 1 {
			want = api.ErrType
		}
		feed(t, &s, []byte{byte(kind)}, nil, want)
		is(t, &s, 4, want, 0)
	}
}

func TestEachBitOfTheCookie(t *testing.T) { // P27.1
	for bit := range 32 {
		b := turned()[:8]
		b[4+bit/8] ^= 1 << (bit % 8)
		var s Stream
		feed(t, &s, b[:7], nil, api.OK)
		feed(t, &s, b[7:], nil, api.ErrMagic)
		is(t, &s, 8, api.ErrMagic, 0)
	}
}

// words is what a Stream is to tell of all bytes that came, by the chapter's words.
func words(b []byte) (told []api.Message, left int, why api.Errno) {
	num := func(l []byte) int {
		n := 0
		for _, c := range l {
			n = n*256 + int(c)
		}
		return n
	}
	for {
		n := len(b)
		switch {
		case n >= 2 && (num(b[:2]) < 12 || num(b[:2]) > 220):
			return told, n, api.ErrSize
		case n >= 4 && num(b[2:4]) != 1:
			return told, n, api.ErrType
		case n >= 8 && !bytes.Equal(b[4:8], []byte{26, 43, 60, 77}):
			return told, n, api.ErrMagic
		case n < 2 || n < num(b[:2]):
			return told, n, api.OK
		}
		m, err := msg.Parse(b[:num(b[:2])])
		if err != api.OK {
			return told, n, err
		}
		told = append(told, m)
		b = b[num(b[:2]):]
	}
}

// chance: the bytes of some messages, in some of which something is turned.
func chance(r *rand.Rand) []byte {
	var b []byte
	for range r.Intn(6) {
		kind := 1 + r.Intn(15)
		some := bytesOf([]api.Message{msg.Of(kind, r.Uint32(), r.Uint32()), full(kind), echo(r.Uint32())}[r.Intn(3)])
		switch r.Intn(24) {
		case 0:
			some[r.Intn(12)] = byte(r.Intn(256))
		case 1:
			some[r.Intn(len(some))] ^= 1 << r.Intn(8)
		case 2:
			some = some[:r.Intn(len(some))]
		}
		b = append(b, some...)
	}
	return b[:len(b)-r.Intn(len(b)/3+1)]
}

// cut: bytes in pieces, by chance.
func cut(r *rand.Rand, b []byte) [][]byte {
	most := []int{1, 3, 30, 300, 3000}[r.Intn(5)]
	var out [][]byte
	for len(b) > 0 {
		n := min(r.Intn(most+1), len(b))
		out = append(out, b[:n])
		b = b[n:]
	}
	return out
}

func TestHoweverTheBytesAreCut(t *testing.T) { // P27.1, P27.2, P2
	r := rand.New(rand.NewSource(272))
	ends := map[api.Errno]int{}
	for range 2000 {
		b := chance(r)
		for range 6 {
			var s Stream
			var told []api.Message
			came := 0
			for _, piece := range cut(r, b) {
				l, err := s.Feed(piece)
				told = append(told, l...)
				came += len(piece)
				want, left, why := words(b[:came])
				if !slices.Equal(told, want) || err != why {
					t.Fatalf("%d bytes of %v came: %d messages, %v, not %d, %v", came, b, len(told), err, len(want), why)
				}
				is(t, &s, left, why, len(want))
			}
			ends[s.Why()]++
		}
	}
	for _, err := range []api.Errno{api.OK, api.ErrSize, api.ErrType, api.ErrMagic, api.ErrForm} {
		if ends[err] < 50 {
			t.Errorf("only %d ended with %v", ends[err], err)
		}
	}
}

func TestEachTwoCuts(t *testing.T) { // P27.2
	for _, b := range [][]byte{
		bytesOf(echo(1), msg.Of(msg.EchoRep, 2, 3), echo(4)),
		append(bytesOf(echo(1)), turned(10, 1)...),
		append(append(bytesOf(echo(1)), turned(3, 2)...), bytesOf(echo(5))...),
	} {
		want, left, why := words(b)
		for i := range len(b) + 1 {
			for j := i; j <= len(b); j++ {
				var s Stream
				var told []api.Message
				for _, piece := range [][]byte{b[:i], b[i:j], b[j:]} {
					l, _ := s.Feed(piece)
					told = append(told, l...)
				}
				if !slices.Equal(told, want) {
					t.Errorf("cut at %d and %d: %+v", i, j, told)
				}
				is(t, &s, left, why, len(want))
			}
		}
	}
}

func TestAnyBytes(t *testing.T) { // P1
	r := rand.New(rand.NewSource(271))
	for range 5000 {
		b := make([]byte, r.Intn(400))
		r.Read(b)
		if r.Intn(2) == 0 {
			copy(b, turned()[:8])
		}
		was := slices.Clone(b)
		var s Stream
		got, err := s.Feed(b)
		want, left, why := words(b)
		if !slices.Equal(got, want) || err != why || !bytes.Equal(b, was) {
			t.Fatalf("of %v: %+v, %v", b, got, err)
		}
		is(t, &s, left, why, len(want))
	}
}

func TestWhatIsHandedInIsntKept(t *testing.T) { // rule 5
	m := full(msg.StartReq)
	b := bytesOf(m, m)
	var s Stream
	for len(b) > 0 {
		n := min(100, len(b))
		piece := slices.Clone(b[:n])
		got, err := s.Feed(piece)
		if err != api.OK || !bytes.Equal(piece, b[:n]) {
			t.Fatal("the bytes are turned", err)
		}
		for i := range piece {
			piece[i] = 99
		}
		for _, other := range got {
			if other != m {
				t.Errorf("%+v", other)
			}
		}
		b = b[n:]
	}
	is(t, &s, 0, api.OK, 2)
}

func TestTheRoomBehindBytes(t *testing.T) { // rule 5: what stands there in memory is somebody else's
	b := bytesOf(echo(1), echo(2))
	was := slices.Clone(b)
	var s Stream
	feed(t, &s, b[:20], []api.Message{echo(1)}, api.OK)
	feed(t, &s, []byte{99, 98}, nil, api.OK)
	if !bytes.Equal(b, was) {
		t.Error("it is turned")
	}
}

func TestACopyGoesItsOwnWay(t *testing.T) { // P2
	var s Stream
	b := bytesOf(echo(0x01020304))
	feed(t, &s, b[:13], nil, api.OK)
	other := s
	feed(t, &s, []byte{5}, nil, api.OK)
	feed(t, &other, []byte{6}, nil, api.OK)
	feed(t, &s, b[14:], []api.Message{echo(0x01050304)}, api.OK)
	feed(t, &other, append(b[14:], 0, 0), []api.Message{echo(0x01060304)}, api.ErrSize)
	is(t, &s, 0, api.OK, 1)
	is(t, &other, 2, api.ErrSize, 1)
}

func TestAnswersAreNewMemory(t *testing.T) { // rule 5
	var s Stream
	b := bytesOf(echo(1), echo(2), echo(3))
	first, _ := s.Feed(b[:40])
	_ = append(first[:1], echo(99))
	first[0] = echo(98)
	feed(t, &s, b[40:], []api.Message{echo(3)}, api.OK)
	is(t, &s, 0, api.OK, 3)
}
