package frame

import (
	"bytes"
	"math/rand"
	"slices"
	"testing"

	"catwalk/api"
)

// count: so many bytes, that go up.
func count(n int) []byte {
	b := make([]byte, n)
	for i := range b {
		b[i] = byte(i*7 + 1)
	}
	return b
}

// equal: are two frames the same?
func equal(a, b api.Frame) bool { return a.Proto == b.Proto && bytes.Equal(a.Data, b.Data) }

// ways: each way in which a frame may be built.
var ways = [][2]bool{{false, false}, {false, true}, {true, false}, {true, true}}

func TestNumbers(t *testing.T) { // P12.1, P12.2
	if IP != 33 || IPCP != 0x8021 || LCP != 0xc021 || CHAP != 0xc223 {
		t.Fatal(IP, IPCP, LCP, CHAP)
	}
}

func TestRight(t *testing.T) { // P12.1
	for _, p := range []uint16{IP, IPCP, LCP, CHAP} {
		if !Right(p) {
			t.Errorf("%x isn't right", p)
		}
	}
	for n := range 65536 {
		low, high := n%256, n/256
		if got := Right(uint16(n)); got != (low%2 == 1 && high%2 == 0) {
			t.Errorf("Right(%x): %v", n, got)
		}
	}
}

func TestParse(t *testing.T) { // P12.1
	for _, c := range []struct {
		b    []byte
		want api.Frame
	}{
		{[]byte{33, 69}, api.Frame{Proto: IP, Data: []byte{69}}},
		{[]byte{0, 33, 69}, api.Frame{Proto: IP, Data: []byte{69}}},
		{[]byte{255, 3, 33, 69}, api.Frame{Proto: IP, Data: []byte{69}}},
		{[]byte{255, 3, 0, 33, 69}, api.Frame{Proto: IP, Data: []byte{69}}},
		{[]byte{255, 3, 0xc0, 0x21, 1, 2}, api.Frame{Proto: LCP, Data: []byte{1, 2}}},
		{[]byte{0xc0, 0x21, 1, 2}, api.Frame{Proto: LCP, Data: []byte{1, 2}}},
		{[]byte{0x80, 0x21}, api.Frame{Proto: IPCP}},
		{[]byte{0xc2, 0x23, 0}, api.Frame{Proto: CHAP, Data: []byte{0}}},
		{[]byte{1}, api.Frame{Proto: 1}},
		{[]byte{255}, api.Frame{Proto: 255}},                                   // no address, since no 3 follows
		{[]byte{255, 4}, api.Frame{Proto: 255, Data: []byte{4}}},               // likewise
		{[]byte{255, 2, 1}, api.Frame{Proto: 255, Data: []byte{2, 1}}},         // likewise
		{[]byte{3, 255, 1}, api.Frame{Proto: 3, Data: []byte{255, 1}}},         // the other way round
		{[]byte{255, 3, 255}, api.Frame{Proto: 255}},                           // behind the address
		{[]byte{255, 3, 255, 3, 1}, api.Frame{Proto: 255, Data: []byte{3, 1}}}, // it is passed over once
		{[]byte{255, 3, 3, 255}, api.Frame{Proto: 3, Data: []byte{255}}},
		{[]byte{0, 255}, api.Frame{Proto: 255}},
		{[]byte{254, 3, 1}, api.Frame{Proto: 0xfe03, Data: []byte{1}}},
		{append([]byte{0, 33}, count(3000)...), api.Frame{Proto: IP, Data: count(3000)}},
	} {
		if got, err := Parse(c.b); !equal(got, c.want) || err != api.OK {
			t.Errorf("Parse(%.20v): %x %v, %v", c.b, got.Proto, got.Data, err)
		}
	}
}

func TestParseOfNone(t *testing.T) { // P12.1
	for _, c := range []struct {
		b    []byte
		want api.Errno
	}{
		{nil, api.ErrShort},
		{[]byte{}, api.ErrShort},
		{[]byte{0}, api.ErrShort},
		{[]byte{0xc0}, api.ErrShort},
		{[]byte{254}, api.ErrShort},
		{[]byte{255, 3}, api.ErrShort},
		{[]byte{255, 3, 0}, api.ErrShort},
		{[]byte{255, 3, 0xc0}, api.ErrShort},
		{[]byte{0, 0}, api.ErrForm},
		{[]byte{0, 32}, api.ErrForm},
		{[]byte{0xc0, 0x20}, api.ErrForm},
		{[]byte{0xc0, 0x22, 1, 2, 3}, api.ErrForm},
		{[]byte{254, 254, 1}, api.ErrForm},
		{[]byte{255, 3, 0, 0}, api.ErrForm},
		{[]byte{255, 3, 0xc0, 0x20, 1}, api.ErrForm},
	} {
		if got, err := Parse(c.b); !equal(got, api.Frame{}) || err != c.want {
			t.Errorf("Parse(%v): %+v, %v, not %v", c.b, got, err, c.want)
		}
	}
}

// byWords: what Parse is to answer, by the chapter's words.
func byWords(b []byte) (api.Frame, api.Errno) {
	if len(b) >= 2 && b[0] == 255 && b[1] == 3 {
		b = b[2:]
	}
	if len(b) >= 1 && b[0]%2 == 1 {
		return api.Frame{Proto: uint16(b[0]), Data: b[1:]}, api.OK
	}
	if len(b) < 2 {
		return api.Frame{}, api.ErrShort
	}
	if b[1]%2 == 0 {
		return api.Frame{}, api.ErrForm
	}
	return api.Frame{Proto: uint16(int(b[0])*256 + int(b[1])), Data: b[2:]}, api.OK
}

func TestParseOfEachBeginning(t *testing.T) { // P12.1
	for a := range 256 {
		for b := range 256 {
			for _, l := range [][]byte{
				{byte(a)}, {byte(a), byte(b)}, {byte(a), byte(b), 5}, {byte(a), byte(b), 4, 9},
				{255, 3, byte(a)}, {255, 3, byte(a), byte(b)}, {255, 3, byte(a), byte(b), 7},
			} {
				want, wrong := byWords(l)
				if got, err := Parse(l); !equal(got, want) || err != wrong {
					t.Fatalf("Parse(%v): %+v, %v, not %+v, %v", l, got, err, want, wrong)
				}
			}
		}
	}
}

func TestBuild(t *testing.T) { // P12.2
	for _, c := range []struct {
		f           api.Frame
		bare, short bool
		want        []byte
	}{
		{api.Frame{Proto: IP, Data: []byte{69}}, true, true, []byte{33, 69}}, // the chapter's example
		{api.Frame{Proto: IP, Data: []byte{69}}, true, false, []byte{0, 33, 69}},
		{api.Frame{Proto: IP, Data: []byte{69}}, false, true, []byte{255, 3, 33, 69}},
		{api.Frame{Proto: IP, Data: []byte{69}}, false, false, []byte{255, 3, 0, 33, 69}},
		{api.Frame{Proto: LCP, Data: []byte{1, 2}}, false, false, []byte{255, 3, 0xc0, 0x21, 1, 2}},
		{api.Frame{Proto: LCP, Data: []byte{1, 2}}, true, false, []byte{255, 3, 0xc0, 0x21, 1, 2}},
		{api.Frame{Proto: LCP, Data: []byte{1, 2}}, false, true, []byte{255, 3, 0xc0, 0x21, 1, 2}},
		{api.Frame{Proto: LCP, Data: []byte{1, 2}}, true, true, []byte{255, 3, 0xc0, 0x21, 1, 2}},
		{api.Frame{Proto: IPCP, Data: []byte{1}}, true, true, []byte{0x80, 0x21, 1}},
		{api.Frame{Proto: IPCP, Data: []byte{1}}, false, true, []byte{255, 3, 0x80, 0x21, 1}},
		{api.Frame{Proto: CHAP}, true, true, []byte{0xc2, 0x23}},
		{api.Frame{Proto: CHAP}, false, false, []byte{255, 3, 0xc2, 0x23}},
		{api.Frame{Proto: 255}, true, true, []byte{255}},
		{api.Frame{Proto: 256}, true, true, []byte{1, 0}},
		{api.Frame{Proto: 257}, false, true, []byte{255, 3, 1, 1}},
		{api.Frame{}, true, true, []byte{0}}, // what isn't Right is built likewise
		{api.Frame{}, true, false, []byte{0, 0}},
		{api.Frame{}, false, false, []byte{255, 3, 0, 0}},
		{api.Frame{Proto: 32, Data: []byte{7}}, false, true, []byte{255, 3, 32, 7}},
		{api.Frame{Proto: 65535, Data: []byte{}}, true, true, []byte{255, 255}},
		{api.Frame{Proto: IP, Data: count(3000)}, true, true, append([]byte{33}, count(3000)...)},
	} {
		if got := Build(c.f, c.bare, c.short); !bytes.Equal(got, c.want) {
			t.Errorf("Build(%x %.20v, %v, %v): %v, not %v", c.f.Proto, c.f.Data, c.bare, c.short, got, c.want)
		}
	}
}

func TestBuildOfEachProtocol(t *testing.T) { // P12.2
	for n := range 65536 {
		f := api.Frame{Proto: uint16(n), Data: []byte{5, 6}}
		for _, w := range ways {
			var want []byte
			if !w[0] || n == 0xc021 {
				want = append(want, 255, 3)
			}
			if !w[1] || n > 255 {
				want = append(want, byte(n/256))
			}
			want = append(want, byte(n%256), 5, 6)
			if got := Build(f, w[0], w[1]); !bytes.Equal(got, want) {
				t.Fatalf("Build of %x, %v: %v, not %v", n, w, got, want)
			}
		}
	}
}

func TestWhatWasBuiltIsParsed(t *testing.T) { // P12.3
	for n := range 65536 {
		for _, data := range [][]byte{nil, {69}, {3}, {255, 3}, {255, 3, 0, 33}, {0}, {1, 2, 3}} {
			f := api.Frame{Proto: uint16(n), Data: data}
			if !Right(f.Proto) {
				continue
			}
			for _, w := range ways {
				begins := n == 255 && w[0] && w[1] && len(data) > 0 && data[0] == 3
				got, err := Parse(Build(f, w[0], w[1]))
				if begins && equal(got, f) || !begins && (err != api.OK || !equal(got, f)) {
					t.Fatalf("%+v, %v, became %+v, %v", f, w, got, err)
				}
			}
		}
	}
}

func TestWhatWasBuiltOfNoProtocol(t *testing.T) { // P12.1, P12.2: of one whose low byte isn't odd, nothing is parsed
	for _, n := range []uint16{0, 32, 254, 0xc020, 0x8000, 0xfefe} {
		for _, w := range ways {
			b := Build(api.Frame{Proto: n, Data: []byte{2, 4}}, w[0], w[1])
			if got, err := Parse(b); err != api.ErrForm || !equal(got, api.Frame{}) {
				t.Errorf("%x, %v: %+v, %v", n, w, got, err)
			}
		}
	}
}

func TestOfAny(t *testing.T) { // P12.1, P12.3
	r := rand.New(rand.NewSource(12))
	for range 20000 {
		b := make([]byte, r.Intn(8))
		r.Read(b)
		if r.Intn(2) == 0 {
			b = append([]byte{255, 3}, b...)
		}
		want, wrong := byWords(b)
		got, err := Parse(b)
		if !equal(got, want) || err != wrong {
			t.Fatalf("Parse(%v): %+v, %v, not %+v, %v", b, got, err, want, wrong)
		}
		if err != api.OK {
			continue
		}
		if again, err := Parse(Build(got, false, r.Intn(2) == 0)); err != api.OK || !equal(again, got) {
			t.Fatalf("%+v became %+v, %v", got, again, err)
		}
	}
}

func TestParseAnswersNewMemory(t *testing.T) { // rule 5
	b := append(make([]byte, 0, 64), 255, 3, 0, 33, 9, 8)
	was := slices.Clone(b[:64])
	got, _ := Parse(b)
	again, _ := Parse(b)
	got.Data[0] = 99
	_ = append(got.Data, 88, 77)
	if !bytes.Equal(b[:64], was) {
		t.Fatal("what was handed in is turned", b)
	}
	b[4] = 55
	if !bytes.Equal(again.Data, []byte{9, 8}) {
		t.Fatal("two answers hang together, or what was handed in is kept", again)
	}
}

func TestBuildAnswersNewMemory(t *testing.T) { // rule 5
	data := append(make([]byte, 0, 64), 9, 8)
	f := api.Frame{Proto: IP, Data: data}
	for _, w := range ways {
		one, two := Build(f, w[0], w[1]), Build(f, w[0], w[1])
		was := slices.Clone(two)
		for i := range one {
			one[i] = 99
		}
		_ = append(one, 88)
		if !bytes.Equal(data[:4], []byte{9, 8, 0, 0}) || !bytes.Equal(two, was) {
			t.Fatal("an answer hangs together with another or with what was handed in", w, data, two)
		}
	}
}
