package cp

import (
	"bytes"
	"math"
	"math/rand"
	"slices"
	"testing"

	"catwalk/api"
)

// count: so many bytes, that go up.
func count(n int) []byte {
	b := make([]byte, n)
	for i := range b {
		b[i] = byte(i*7 + 1)
	}
	return b
}

// equal: are two packets the same?
func equal(a, b api.Control) bool {
	return a.Code == b.Code && a.ID == b.ID && bytes.Equal(a.Data, b.Data)
}

func TestCodes(t *testing.T) { // P15.2
	codes := []int{ConfReq, ConfAck, ConfNak, ConfRej, TermReq, TermAck, CodeRej, ProtoRej, EchoReq, EchoReply, Discard}
	for i, c := range codes {
		if c != i+1 {
			t.Errorf("code %d is %d", i+1, c)
		}
	}
}

func TestBuild(t *testing.T) { // P15.1
	for _, c := range []struct {
		p    api.Control
		want []byte
	}{
		{api.Control{Code: 5, ID: 9}, []byte{5, 9, 0, 4}}, // the chapter's example
		{api.Control{}, []byte{0, 0, 0, 4}},
		{api.Control{Code: 1, ID: 255, Data: []byte{7}}, []byte{1, 255, 0, 5, 7}},
		{api.Control{Code: 255, ID: 1, Data: count(252)}, append([]byte{255, 1, 1, 0}, count(252)...)},
		{api.Control{Code: 2, ID: 3, Data: count(65530)}, append([]byte{2, 3, 255, 254}, count(65530)...)},
		{api.Control{Code: 2, ID: 3, Data: count(65531)}, append([]byte{2, 3, 255, 255}, count(65531)...)},
		{api.Control{Code: 2, ID: 3, Data: count(65532)}, append([]byte{2, 3, 255, 255}, count(65531)...)},
		{api.Control{Code: 2, ID: 3, Data: count(200000)}, append([]byte{2, 3, 255, 255}, count(65531)...)},
	} {
		if got := Build(c.p); !bytes.Equal(got, c.want) {
			t.Errorf("of %d %d, %d of data: %.20v", c.p.Code, c.p.ID, len(c.p.Data), got)
		}
	}
}

func TestParse(t *testing.T) { // P15.1
	for _, c := range []struct {
		b    []byte
		want api.Control
	}{
		{[]byte{5, 9, 0, 4}, api.Control{Code: 5, ID: 9}},
		{[]byte{5, 9, 0, 4, 1}, api.Control{Code: 5, ID: 9}}, // what is behind is passed over
		{[]byte{0, 0, 0, 5, 8}, api.Control{Data: []byte{8}}},
		{[]byte{1, 2, 0, 6, 8, 9, 10, 11}, api.Control{Code: 1, ID: 2, Data: []byte{8, 9}}},
		{append([]byte{200, 2, 1, 0}, count(300)...), api.Control{Code: 200, ID: 2, Data: count(252)}},
		{append([]byte{1, 2, 255, 255}, count(65531)...), api.Control{Code: 1, ID: 2, Data: count(65531)}},
	} {
		if got, err := Parse(c.b); !equal(got, c.want) || err != api.OK {
			t.Errorf("Parse(%.20v): %d %d, %d of data, %v", c.b, got.Code, got.ID, len(got.Data), err)
		}
	}
}

func TestParseOfNone(t *testing.T) { // P15.1
	for _, c := range []struct {
		b    []byte
		want api.Errno
	}{
		{nil, api.ErrShort},
		{[]byte{}, api.ErrShort},
		{[]byte{1}, api.ErrShort},
		{[]byte{1, 2}, api.ErrShort},
		{[]byte{1, 2, 0}, api.ErrShort},
		{[]byte{1, 2, 0, 0}, api.ErrForm},
		{[]byte{1, 2, 0, 1}, api.ErrForm},
		{[]byte{1, 2, 0, 3}, api.ErrForm},
		{[]byte{1, 2, 0, 3, 4, 5, 6}, api.ErrForm},
		{[]byte{1, 2, 0, 5}, api.ErrShort},
		{[]byte{1, 2, 0, 7, 1, 2}, api.ErrShort},
		{[]byte{1, 2, 1, 0, 1, 2}, api.ErrShort},
		{append([]byte{1, 2, 255, 255}, count(65530)...), api.ErrShort},
	} {
		if got, err := Parse(c.b); !equal(got, api.Control{}) || err != c.want {
			t.Errorf("Parse(%.20v): %+v, %v, not %v", c.b, got, err, c.want)
		}
	}
}

func TestParseOfEachLength(t *testing.T) { // P15.1
	for size := range 40 {
		for many := range 40 {
			b := append([]byte{3, 4, 0, byte(size)}, count(40)...)[:many]
			want := api.OK
			switch {
			case many < 4:
				want = api.ErrShort
			case size < 4:
				want = api.ErrForm
			case many < size:
				want = api.ErrShort
			}
			p := api.Control{}
			if want == api.OK {
				p = api.Control{Code: 3, ID: 4, Data: count(40)[:size-4]}
			}
			if got, err := Parse(b); !equal(got, p) || err != want {
				t.Errorf("%d bytes, of a length of %d: %+v, %v", many, size, got, err)
			}
		}
	}
}

func TestKnown(t *testing.T) { // P15.2
	for code := range 256 {
		for most := range 256 {
			if Known(uint8(code), uint8(most)) != (code >= 1 && code <= most) {
				t.Errorf("Known(%d, %d): %v", code, most, code < 1 || code > most)
			}
		}
	}
}

// sizes are most's of every kind.
func sizes() []int {
	l := []int{math.MinInt, math.MinInt + 3, math.MinInt + 4, -1600, -1, 100, 1500, 65535, 65536, math.MaxInt - 1, math.MaxInt}
	for n := range 30 {
		l = append(l, n)
	}
	return l
}

// cut: of bytes what a packet of at most so many bytes has room for.
func cut(b []byte, most int) []byte {
	if most < 4 {
		return nil
	}
	if most-4 < len(b) {
		return b[:most-4]
	}
	return b
}

func TestReject(t *testing.T) { // P15.2
	p := api.Control{Code: 77, ID: 8, Data: []byte{1, 2, 3}}
	all := []byte{77, 8, 0, 7, 1, 2, 3}
	for _, most := range sizes() {
		want := api.Control{Code: 7, ID: 5, Data: cut(all, most)}
		if got := Reject(5, p, most); !equal(got, want) {
			t.Errorf("most %d: %+v", most, got)
		}
	}
	if got := Reject(255, api.Control{}, 1500); !equal(got, api.Control{Code: 7, ID: 255, Data: []byte{0, 0, 0, 4}}) {
		t.Errorf("of the zero one: %+v", got)
	}
	long := api.Control{Code: 12, ID: 1, Data: count(70000)}
	for _, most := range []int{1500, 65535, 65538, 65539, 65540, math.MaxInt} {
		if got := Reject(0, long, most); !equal(got, api.Control{Code: 7, Data: cut(append([]byte{12, 1, 255, 255}, count(65531)...), most)}) {
			t.Errorf("of a long one, most %d: %d of data", most, len(got.Data))
		}
	}
}

func TestRejectProto(t *testing.T) { // P15.2
	all := []byte{0x80, 0xfd, 1, 2, 3, 4, 5}
	for _, most := range sizes() {
		want := api.Control{Code: 8, ID: 6, Data: cut(all, most)}
		if got := RejectProto(6, 0x80fd, []byte{1, 2, 3, 4, 5}, most); !equal(got, want) {
			t.Errorf("most %d: %+v", most, got)
		}
		want = api.Control{Code: 8, Data: cut([]byte{1, 2}, most)}
		if got := RejectProto(0, 0x0102, nil, most); !equal(got, want) {
			t.Errorf("of no data, most %d: %+v", most, got)
		}
	}
	long := append([]byte{0, 0x31}, count(2000)...)
	for _, most := range []int{1500, 1600, 2005, 2006, 2007} {
		if got := RejectProto(9, 0x31, count(2000), most); !equal(got, api.Control{Code: 8, ID: 9, Data: cut(long, most)}) {
			t.Errorf("of long data, most %d: %d of data", most, len(got.Data))
		}
	}
}

func TestBuiltIsParsed(t *testing.T) { // P15.3
	r := rand.New(rand.NewSource(153))
	for range 3000 {
		p := api.Control{Code: uint8(r.Intn(256)), ID: uint8(r.Intn(256)), Data: count(r.Intn(600))}
		b := Build(p)
		for _, tail := range []int{0, 1, 9} {
			if got, err := Parse(append(slices.Clone(b), count(tail)...)); !equal(got, p) || err != api.OK {
				t.Fatalf("%+v is parsed as %+v, %v", p, got, err)
			}
		}
		if got, err := Parse(b[:len(b)-1]); !equal(got, api.Control{}) || err != api.ErrShort {
			t.Fatalf("%+v, a byte too few, is parsed as %+v, %v", p, got, err)
		}
	}
	whole := api.Control{Code: 1, Data: count(65531)}
	if got, err := Parse(Build(whole)); !equal(got, whole) || err != api.OK {
		t.Errorf("of the longest data: %d of data, %v", len(got.Data), err)
	}
}

func TestARejectFits(t *testing.T) { // P15.2, P15.3
	p := api.Control{Code: 99, ID: 1, Data: count(3000)}
	for _, got := range []api.Control{Reject(2, p, 1500), RejectProto(2, 0x8053, p.Data, 1500)} {
		if b := Build(got); len(b) != 1500 {
			t.Errorf("a packet of %d bytes", len(b))
		}
	}
}

func TestNewMemory(t *testing.T) { // P2, rule 5
	data := append(make([]byte, 0, 64), 1, 2, 3)
	p := api.Control{Code: 1, ID: 2, Data: data}
	b := Build(p)
	got, _ := Parse(b)
	said, heard := Reject(1, p, 100), RejectProto(1, 2, data, 100)
	for _, l := range [][]byte{got.Data, said.Data, heard.Data} {
		l[len(l)-1] = 99
		_ = append(l, 88)
	}
	if !bytes.Equal(b, []byte{1, 2, 0, 7, 1, 2, 3}) {
		t.Error("Parse's bytes were changed")
	}
	b[4] = 77
	if !bytes.Equal(data[:8], []byte{1, 2, 3, 0, 0, 0, 0, 0}) {
		t.Error("the data were changed")
	}
}

func TestAnyBytes(t *testing.T) { // P1, P2
	r := rand.New(rand.NewSource(15))
	for range 20000 {
		b := make([]byte, r.Intn(20))
		r.Read(b)
		if len(b) > 3 && r.Intn(3) > 0 {
			b[2], b[3] = 0, byte(r.Intn(24))
		}
		was := slices.Clone(b)
		p, err := Parse(b)
		again, errAgain := Parse(was)
		if !equal(p, again) || err != errAgain || !bytes.Equal(b, was) {
			t.Fatalf("Parse(%v): %+v, %v", b, p, err)
		}
		if err == api.OK && !bytes.Equal(Build(p), b[:4+len(p.Data)]) {
			t.Fatalf("%v is parsed as %+v", b, p)
		}
	}
}
