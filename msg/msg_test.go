package msg

import (
	"bytes"
	"math"
	"math/rand"
	"slices"
	"strconv"
	"strings"
	"testing"

	"catwalk/api"
)

// shapes are the types' parts, as the chapter writes them.
var shapes = [...]string{
	StartReq:  "2n 2_ 4n 4n 2n 2n 64t 64t",
	StartRep:  "2n 1n 1n 4n 4n 2n 2n 64t 64t",
	StopReq:   "1n 3_",
	StopRep:   "1n 1n 2_",
	EchoReq:   "4n",
	EchoRep:   "4n 1n 1n 2_",
	OutReq:    "2n 2n 4n 4n 4n 4n 2n 2n 2n 2_ 64t 64t",
	OutRep:    "2n 2n 1n 1n 2n 4n 2n 2n 4n",
	InReq:     "2n 2n 4n 4n 2n 2n 64t 64t 64t",
	InRep:     "2n 2n 1n 1n 2n 2n 2_",
	InConn:    "2n 2_ 4n 2n 2n 4n",
	ClearReq:  "2n 2_",
	DiscNote:  "2n 1n 1n 2n 2_ 128t",
	ErrorNote: "2n 2_ 4n 4n 4n 4n 4n 4n",
	LinkInfo:  "2n 2_ 4n 4n",
}

// lengths are how many bytes the types' messages have by RFC 2637.
var lengths = [...]int{0, 156, 156, 16, 16, 16, 20, 168, 32, 220, 24, 28, 16, 148, 40, 24}

// nones are types that there are none of; of some the low bytes are those of one.
var nones = []int{math.MinInt, math.MinInt + 1, -256, -15, -1, 0, 16, 17, 255, 256, 257, 65535, 65536, 65537, 1 << 32, 1<<32 + 5, math.MaxInt}

// widths: the bytes of a type's numbers, or of its texts.
func widths(t int, kind string) []int {
	var out []int
	for _, w := range strings.Fields(shapes[t]) {
		if size, ok := strings.CutSuffix(w, kind); ok {
			n, _ := strconv.Atoi(size)
			out = append(out, n)
		}
	}
	return out
}

// sheet: the bytes of a message, part by part as the chapter writes them, and what each of the bytes is: n, t or _, and h of the head.
func sheet(m api.Message) (b []byte, marks string) {
	l := lengths[m.Type]
	b = []byte{byte(l >> 8), byte(l), 0, 1, 0x1a, 0x2b, 0x3c, 0x4d, 0, byte(m.Type), 0, 0}
	marks = "hhhhhhhhhh__"
	numbers, texts := m.N[:], m.T[:]
	for _, w := range strings.Fields(shapes[m.Type]) {
		mark := w[len(w)-1:]
		size, _ := strconv.Atoi(w[:len(w)-1])
		marks += strings.Repeat(mark, size)
		switch mark {
		case "n":
			for i := size - 1; i >= 0; i-- {
				b = append(b, byte(numbers[0]>>(8*i)))
			}
			numbers = numbers[1:]
		case "t":
			b = append(b, texts[0]+strings.Repeat("\x00", size-len(texts[0]))...)
			texts = texts[1:]
		case "_":
			b = append(b, make([]byte, size)...)
		}
	}
	return b, marks
}

// chance: a message of a type that may be, by chance.
func chance(r *rand.Rand, t int) api.Message {
	m := api.Message{Type: t}
	for i, size := range widths(t, "n") {
		m.N[i] = uint32(r.Uint64() % (1 << (8 * size)))
	}
	for i, size := range widths(t, "t") {
		b := make([]byte, []int{0, 1, r.Intn(size), size}[r.Intn(4)])
		r.Read(b)
		if len(b) > 2 {
			b[len(b)/2] = 0
		}
		m.T[i] = strings.TrimRight(string(b), "\x00")
	}
	return m
}

// plain: the bytes of some message of a type.
func plain(t int) []byte {
	b, _ := sheet(api.Message{Type: t})
	return b
}

func TestNames(t *testing.T) {
	if Cookie != 439041101 || Version != 256 || Most != 9 || Texts != 3 {
		t.Error("Cookie, Version, Most, Texts")
	}
	names := []int{StartReq, StartRep, StopReq, StopRep, EchoReq, EchoRep, OutReq, OutRep, InReq, InRep, InConn, ClearReq, DiscNote, ErrorNote, LinkInfo}
	for i, n := range names {
		if n != i+1 {
			t.Errorf("the type %d is %d", i+1, n)
		}
	}
}

func TestSize(t *testing.T) { // P16.1
	for kind := StartReq; kind <= LinkInfo; kind++ {
		if got := Size(kind); got != lengths[kind] {
			t.Errorf("Size(%d): %d, not %d", kind, got, lengths[kind])
		}
	}
	for _, kind := range nones {
		if got := Size(kind); got != 0 {
			t.Errorf("Size(%d): %d", kind, got)
		}
	}
}

func TestExample(t *testing.T) { // P16.1, P16.2: the chapter's
	want := []byte{0, 16, 0, 1, 26, 43, 60, 77, 0, 5, 0, 0, 0, 0, 1, 2}
	m := Of(EchoReq, 258)
	if got := Build(m); !bytes.Equal(got, want) {
		t.Errorf("Build: %v", got)
	}
	if got, err := Parse(want); got != m || err != api.OK {
		t.Errorf("Parse: %v, %v", got, err)
	}
}

func TestKnownMessages(t *testing.T) { // P16.1, P16.2: written out by hand
	head := func(size, kind byte, parts ...byte) []byte {
		return append([]byte{0, size, 0, 1, 26, 43, 60, 77, 0, kind, 0, 0}, parts...)
	}
	texts := func(b []byte, size int, l ...string) []byte {
		for _, s := range l {
			b = append(append(b, s...), make([]byte, size-len(s))...)
		}
		return b
	}
	for _, c := range []struct {
		m    api.Message
		want []byte
	}{
		{api.Message{Type: StartReq, N: [9]uint32{256, 3, 0x01020304, 5, 6}, T: [3]string{"host", "maker"}},
			texts(head(156, 1, 1, 0, 0, 0, 0, 0, 0, 3, 1, 2, 3, 4, 0, 5, 0, 6), 64, "host", "maker")},
		{api.Message{Type: StartRep, N: [9]uint32{256, 1, 2, 3, 4, 5, 6}, T: [3]string{"", "x"}},
			texts(head(156, 2, 1, 0, 1, 2, 0, 0, 0, 3, 0, 0, 0, 4, 0, 5, 0, 6), 64, "", "x")},
		{Of(StopReq, 2), head(16, 3, 2, 0, 0, 0)},
		{Of(StopRep, 1, 9), head(16, 4, 1, 9, 0, 0)},
		{Of(EchoRep, 0xfffefdfc, 1, 2), head(20, 6, 255, 254, 253, 252, 1, 2, 0, 0)},
		{api.Message{Type: OutReq, N: [9]uint32{5, 1, 300, 100000000, 3, 3, 8, 0, 7}, T: [3]string{"5551", "sub"}},
			texts(head(168, 7, 0, 5, 0, 1, 0, 0, 1, 44, 5, 245, 225, 0, 0, 0, 0, 3, 0, 0, 0, 3, 0, 8, 0, 0, 0, 7, 0, 0), 64, "5551", "sub")},
		{Of(OutRep, 9, 5, 1, 2, 3, 4, 6, 7, 8), head(32, 8, 0, 9, 0, 5, 1, 2, 0, 3, 0, 0, 0, 4, 0, 6, 0, 7, 0, 0, 0, 8)},
		{api.Message{Type: InReq, N: [9]uint32{7, 1, 3, 4, 5, 6}, T: [3]string{"a", "b", "c"}},
			texts(head(220, 9, 0, 7, 0, 1, 0, 0, 0, 3, 0, 0, 0, 4, 0, 5, 0, 6), 64, "a", "b", "c")},
		{Of(InRep, 1, 7, 1, 2, 8, 9), head(24, 10, 0, 1, 0, 7, 1, 2, 0, 8, 0, 9, 0, 0)},
		{Of(InConn, 1, 2, 8, 3, 4), head(28, 11, 0, 1, 0, 0, 0, 0, 0, 2, 0, 8, 0, 3, 0, 0, 0, 4)},
		{Of(ClearReq, 513), head(16, 12, 2, 1, 0, 0)},
		{api.Message{Type: DiscNote, N: [9]uint32{1, 4, 2, 3}, T: [3]string{"gone"}},
			texts(head(148, 13, 0, 1, 4, 2, 0, 3, 0, 0), 128, "gone")},
		{Of(ErrorNote, 1, 2, 3, 4, 5, 6, 7), head(40, 14, 0, 1, 0, 0, 0, 0, 0, 2, 0, 0, 0, 3, 0, 0, 0, 4, 0, 0, 0, 5, 0, 0, 0, 6, 0, 0, 0, 7)},
		{Of(LinkInfo, 1, math.MaxUint32, 2), head(24, 15, 0, 1, 0, 0, 255, 255, 255, 255, 0, 0, 0, 2)},
	} {
		if got := Build(c.m); !bytes.Equal(got, c.want) || !Right(c.m) {
			t.Errorf("Build of %+v: %v", c.m, got)
		}
		if got, err := Parse(c.want); got != c.m || err != api.OK {
			t.Errorf("Parse: %+v, %v, not %+v", got, err, c.m)
		}
	}
}

func TestBuildByShapes(t *testing.T) { // P16.1
	r := rand.New(rand.NewSource(161))
	for kind := StartReq; kind <= LinkInfo; kind++ {
		for range 200 {
			m := chance(r, kind)
			want, _ := sheet(m)
			if got := Build(m); !bytes.Equal(got, want) {
				t.Fatalf("Build of %+v: %v", m, got)
			}
			if len(want) != Size(kind) {
				t.Fatalf("%d bytes of the type %d", len(want), kind)
			}
		}
	}
}

// refused: a message isn't Right, and has no bytes.
func refused(t *testing.T, m api.Message) {
	t.Helper()
	if b := Build(m); Right(m) || len(b) != 0 {
		t.Errorf("%+v may be, and has %d bytes", m, len(b))
	}
}

// taken: a message is Right, has bytes, and is parsed from them as it was.
func taken(t *testing.T, m api.Message) {
	t.Helper()
	b := Build(m)
	if got, err := Parse(b); !Right(m) || len(b) != lengths[m.Type] || got != m || err != api.OK {
		t.Errorf("%+v may not be, or is parsed as %+v, %v", m, got, err)
	}
}

func TestEdgesOfNumbers(t *testing.T) { // P16.1
	for kind := StartReq; kind <= LinkInfo; kind++ {
		sizes := widths(kind, "n")
		for i := range Most {
			m := api.Message{Type: kind}
			taken(t, m)
			if i >= len(sizes) { // a number that the type doesn't have
				for _, n := range []uint32{1, 255, 256, 1 << 31, math.MaxUint32} {
					m.N[i] = n
					refused(t, m)
				}
				continue
			}
			last := uint32(1<<(8*sizes[i]) - 1)
			for _, n := range []uint32{0, 1, last - 1, last} {
				m.N[i] = n
				taken(t, m)
			}
			for _, n := range []uint32{last + 1, last + 2, 1 << 31, math.MaxUint32} {
				if m.N[i] = n; n > last {
					refused(t, m)
				}
			}
		}
	}
}

func TestEdgesOfTexts(t *testing.T) { // P16.1
	for kind := StartReq; kind <= LinkInfo; kind++ {
		sizes := widths(kind, "t")
		for i := range Texts {
			m := api.Message{Type: kind}
			if i >= len(sizes) { // a text that the type doesn't have
				for _, s := range []string{"a", "\x00", " ", strings.Repeat("x", 64)} {
					m.T[i] = s
					refused(t, m)
				}
				continue
			}
			for _, n := range []int{0, 1, sizes[i] - 1, sizes[i]} {
				m.T[i] = strings.Repeat("\xff", n)
				taken(t, m)
			}
			for _, s := range []string{"\x00a", "a\x00b", "\x00\x00\x01", "a ", "\n", "ä", "\xc3", "\xff\xfe"} {
				m.T[i] = s
				taken(t, m)
			}
			for _, n := range []int{sizes[i] + 1, 2 * sizes[i], 70000} {
				m.T[i] = strings.Repeat("a", n)
				refused(t, m)
			}
			for _, s := range []string{"\x00", "a\x00", "\x00\x00", "a\x00b\x00", strings.Repeat("a", sizes[i]-1) + "\x00", strings.Repeat("\x00", sizes[i])} {
				m.T[i] = s
				refused(t, m)
			}
		}
	}
}

func TestNoSuchTypeIsNotRight(t *testing.T) { // P16.1
	for _, kind := range nones {
		refused(t, api.Message{Type: kind})
		refused(t, api.Message{Type: kind, N: [9]uint32{1}, T: [3]string{"a"}})
	}
}

func TestOf(t *testing.T) { // P16.1
	long := []uint32{0x11223344, 0x55667788, 0x99aabbcc, 0xddeeff00, 0x12345678, 0x9abcdef0, 0xffffffff, 0x80000001, 0x100, 7, 8, 9}
	for kind := StartReq; kind <= LinkInfo; kind++ {
		for many := range len(long) + 1 {
			want := api.Message{Type: kind}
			for i, size := range widths(kind, "n") {
				if i < many {
					want.N[i] = uint32(uint64(long[i]) % (1 << (8 * size)))
				}
			}
			if got := Of(kind, long[:many]...); got != want || !Right(got) {
				t.Errorf("Of(%d, %x): %x, not %x", kind, long[:many], got, want)
			}
		}
	}
	for _, kind := range nones {
		for _, l := range [][]uint32{nil, {}, {1}, long} {
			if got := Of(kind, l...); got != (api.Message{Type: kind}) {
				t.Errorf("Of(%d): %+v", kind, got)
			}
		}
	}
	if got := Of(StopReq, 257, 1); got != (api.Message{Type: StopReq, N: [9]uint32{1}}) {
		t.Errorf("of one number too many: %+v", got)
	}
}

func TestParseShort(t *testing.T) { // P16.2: fewer than 12, whatever they are
	for kind := StartReq; kind <= LinkInfo; kind++ {
		for n := range 12 {
			for _, b := range [][]byte{plain(kind)[:n], make([]byte, n), bytes.Repeat([]byte{255}, n)} {
				if got, err := Parse(b); got != (api.Message{}) || err != api.ErrShort {
					t.Errorf("Parse(%v): %+v, %v", b, got, err)
				}
			}
		}
	}
	if _, err := Parse(nil); err != api.ErrShort {
		t.Error(err)
	}
}

// turned: an EchoReq's bytes, with others at some places.
func turned(at ...int) []byte {
	b := plain(EchoReq)
	for i := 0; i+1 < len(at); i += 2 {
		b[at[i]] = byte(at[i+1])
	}
	return b
}

func TestParseErrors(t *testing.T) { // P16.2: each, and which of several
	for _, c := range []struct {
		name string
		b    []byte
		want api.Errno
	}{
		{"nothing is wrong", turned(), api.OK},
		{"12 of another cookie", make([]byte, 12), api.ErrMagic},
		{"the cookie's first byte", turned(4, 27), api.ErrMagic},
		{"its second", turned(5, 42), api.ErrMagic},
		{"its third", turned(6, 0), api.ErrMagic},
		{"its last", turned(7, 76), api.ErrMagic},
		{"the cookie, and all else", turned(0, 9, 2, 1, 7, 76, 9, 0, 10, 1), api.ErrMagic},
		{"a management message", turned(3, 2), api.ErrType},
		{"0", turned(3, 0), api.ErrType},
		{"257", turned(2, 1), api.ErrType},
		{"256", turned(2, 1, 3, 0), api.ErrType},
		{"the type 0", turned(9, 0), api.ErrType},
		{"the type 16", turned(9, 16), api.ErrType},
		{"the type 261", turned(8, 1), api.ErrType},
		{"the type 65535", turned(8, 255, 9, 255), api.ErrType},
		{"the type, the length, and noughts", turned(1, 17, 9, 16, 11, 1), api.ErrType},
		{"they say one less", turned(1, 15), api.ErrSize},
		{"they say one more", turned(1, 17), api.ErrSize},
		{"they say 0", turned(1, 0), api.ErrSize},
		{"they say 256 more", turned(0, 1), api.ErrSize},
		{"another type's length", turned(9, EchoRep), api.ErrSize},
		{"another type's length, that they say", turned(1, 20, 9, EchoRep), api.ErrSize},
		{"one more byte", append(turned(), 0), api.ErrSize},
		{"one more byte, that they say", append(turned(1, 17), 0), api.ErrSize},
		{"one less", turned()[:15], api.ErrSize},
		{"one less, that they say", turned(1, 15)[:15], api.ErrSize},
		{"the head alone", turned()[:12], api.ErrSize},
		{"the head alone, that they say", turned(1, 12)[:12], api.ErrSize},
		{"the length, and noughts", turned(1, 17, 11, 1), api.ErrSize},
		{"the head's first nought", turned(10, 1), api.ErrForm},
		{"its second", turned(11, 255), api.ErrForm},
	} {
		want := api.Message{}
		if c.want == api.OK {
			want.Type = EchoReq
		}
		if got, err := Parse(c.b); got != want || err != c.want {
			t.Errorf("%s: %+v, %v, not %v", c.name, got, err, c.want)
		}
	}
}

func TestParseOfEachLength(t *testing.T) { // P16.2
	for kind := StartReq; kind <= LinkInfo; kind++ {
		whole := append(plain(kind), make([]byte, 30)...)
		for n := 12; n < len(whole); n++ {
			for _, said := range []int{lengths[kind], n, 0, 12, 65535, lengths[kind] + 256} {
				b := slices.Clone(whole[:n])
				b[0], b[1] = byte(said>>8), byte(said)
				want := api.ErrSize
				if n == lengths[kind] && said == n {
					want = api.OK
				}
				if _, err := Parse(b); err != want {
					t.Errorf("%d bytes of the type %d, that say %d: %v, not %v", n, kind, said, err, want)
				}
			}
		}
	}
}

func TestNoughts(t *testing.T) { // P16.2: each byte that is to be 0, and none else
	for kind := StartReq; kind <= LinkInfo; kind++ {
		b, marks := sheet(api.Message{Type: kind})
		for at, mark := range marks {
			if mark == 'h' {
				continue
			}
			want := api.OK
			if mark == '_' {
				want = api.ErrForm
			}
			for _, c := range []byte{1, 2, 16, 128, 255} {
				other := slices.Clone(b)
				other[at] = c
				got, err := Parse(other)
				if err != want || (err != api.OK && got != api.Message{}) {
					t.Errorf("the type %d, byte %d is %d: %+v, %v", kind, at, c, got, err)
				}
				if err == api.OK && !bytes.Equal(Build(got), other) {
					t.Errorf("the type %d, byte %d is %d: it is built otherwise", kind, at, c)
				}
			}
		}
	}
}

func TestBuiltIsParsed(t *testing.T) { // P16.3
	r := rand.New(rand.NewSource(163))
	for range 6000 {
		m := chance(r, 1+r.Intn(15))
		if got, err := Parse(Build(m)); got != m || err != api.OK || !Right(m) {
			t.Fatalf("%+v is parsed as %+v, %v", m, got, err)
		}
	}
}

func TestParsedIsBuilt(t *testing.T) { // P16.3, P1, P2
	r := rand.New(rand.NewSource(164))
	good := 0
	for range 30000 {
		b := plain(1 + r.Intn(15))
		for range r.Intn(4) {
			b[r.Intn(len(b))] = byte(r.Intn(256))
		}
		if r.Intn(3) == 0 {
			r.Read(b[12:])
		}
		if r.Intn(9) == 0 {
			b = b[:r.Intn(len(b)+1)]
		}
		was := slices.Clone(b)
		m, err := Parse(b)
		again, errAgain := Parse(was)
		if m != again || err != errAgain || !bytes.Equal(b, was) {
			t.Fatalf("Parse(%v): %+v, %v, or %+v, %v", b, m, err, again, errAgain)
		}
		if err != api.OK {
			if m != (api.Message{}) || !slices.Contains([]api.Errno{api.ErrShort, api.ErrMagic, api.ErrType, api.ErrSize, api.ErrForm}, err) {
				t.Fatalf("Parse(%v): %+v, %v", b, m, err)
			}
			continue
		}
		good++
		if !Right(m) || !bytes.Equal(Build(m), b) {
			t.Fatalf("%v is parsed as %+v", b, m)
		}
	}
	if good < 5000 {
		t.Errorf("only %d were messages", good)
	}
}

func TestAnyBytes(t *testing.T) { // P1
	r := rand.New(rand.NewSource(165))
	for range 20000 {
		b := make([]byte, r.Intn(240))
		r.Read(b)
		if got, err := Parse(b); err == api.OK || got != (api.Message{}) {
			t.Fatalf("Parse(%v): %+v, %v", b, got, err)
		}
	}
	if _, err := Parse(append(plain(EchoReq), make([]byte, 1<<20)...)); err != api.ErrSize {
		t.Error("of very many bytes", err)
	}
}

func TestAnyMessage(t *testing.T) { // P1, P2
	r := rand.New(rand.NewSource(166))
	for range 5000 {
		m := api.Message{Type: r.Intn(20) - 2}
		for i := range m.N {
			m.N[i] = r.Uint32() >> r.Intn(33)
		}
		for i := range m.T {
			m.T[i] = strings.Repeat("a", r.Intn(140))
		}
		b := Build(m)
		if !bytes.Equal(b, Build(m)) || Right(m) != (len(b) > 0) {
			t.Fatalf("%+v has %d bytes", m, len(b))
		}
	}
}

func TestNewMemory(t *testing.T) { // rule 5
	b := plain(StartReq)
	b[30] = 'x'
	m, _ := Parse(b)
	for i := range b {
		b[i] = 99
	}
	if len(m.T[0]) != 3 || m.T[0] != "\x00\x00x" {
		t.Errorf("the text was turned: %q", m.T[0])
	}
	first := Build(m)
	again := Build(m)
	for i := range first {
		first[i] = 88
	}
	if !bytes.Equal(again, Build(m)) {
		t.Error("two answers share memory")
	}
	l := []uint32{1 << 20, 2, 3, 4, 5, 6, 7, 8, 9, 10}
	Of(StopReq, l...)
	if l[0] != 1<<20 {
		t.Error("the numbers were turned")
	}
}
