package ip4

import (
	"bytes"
	"math/rand"
	"slices"
	"testing"

	"catwalk/api"
)

// count: so many bytes, that go up.
func count(n int) []byte {
	b := make([]byte, n)
	for i := range b {
		b[i] = byte(i*7 + 1)
	}
	return b
}

// equal: are two datagrams the same?
func equal(a, b api.Datagram) bool {
	return a.TOS == b.TOS && a.TTL == b.TTL && a.Proto == b.Proto && a.ID == b.ID && a.Frag == b.Frag &&
		a.Src == b.Src && a.Dst == b.Dst && bytes.Equal(a.Opts, b.Opts) && bytes.Equal(a.Data, b.Data)
}

// plain: the checksum of a whole number of words, as layer 5's chapter says it.
func plain(b []byte) int {
	total := 0
	for i := 0; i < len(b); i += 2 {
		total += 256*int(b[i]) + int(b[i+1])
	}
	for total > 65535 {
		total = total/65536 + total%65536
	}
	return 65535 - total
}

// sealed: bytes whose head, of so many of them, has its checksum.
func sealed(b []byte, head int) []byte {
	b = slices.Clone(b)
	b[10], b[11] = 0, 0
	check := plain(b[:head])
	b[10], b[11] = byte(check/256), byte(check%256)
	return b
}

// byWords: the bytes of a datagram, by the chapter's words.
func byWords(p api.Datagram) []byte {
	head := 20 + len(p.Opts)
	all := head + len(p.Data)
	b := []byte{
		byte(64 + head/4), p.TOS, byte(all / 256), byte(all % 256),
		byte(p.ID / 256), byte(p.ID % 256), byte(p.Frag / 256), byte(p.Frag % 256),
		p.TTL, p.Proto, 0, 0,
	}
	for _, a := range []api.Addr{p.Src, p.Dst} {
		b = append(b, byte(a>>24), byte(a>>16), byte(a>>8), byte(a))
	}
	return sealed(slices.Concat(b, p.Opts, p.Data), head)
}

// some: a datagram by chance.
func some(r *rand.Rand) api.Datagram {
	p := api.Datagram{
		TOS: byte(r.Intn(256)), TTL: byte(r.Intn(256)), Proto: byte(r.Intn(256)),
		ID: uint16(r.Intn(65536)), Frag: uint16(r.Intn(65536)),
		Src: api.Addr(r.Uint32()), Dst: api.Addr(r.Uint32()),
		Opts: count(4 * r.Intn(11)), Data: count(r.Intn(50)),
	}
	r.Read(p.Data)
	return p
}

// known is a head with its checksum, as textbooks have it; its datagram has 40 bytes of data.
var known = []byte{0x45, 0, 0, 0x3c, 0x1c, 0x46, 0x40, 0, 0x40, 6, 0xb1, 0xe6, 0xac, 0x10, 0x0a, 0x63, 0xac, 0x10, 0x0a, 0x0c}

func TestBuildExamples(t *testing.T) { // P13.1
	zero := []byte{69, 0, 0, 20, 0, 0, 0, 0, 0, 0, 186, 235, 0, 0, 0, 0, 0, 0, 0, 0}
	if b, err := Build(api.Datagram{}); !bytes.Equal(b, zero) || err != api.OK {
		t.Errorf("of the zero one: %v, %v", b, err)
	}
	p := api.Datagram{TTL: 64, Proto: 6, ID: 0x1c46, Frag: 0x4000, Src: 0xac100a63, Dst: 0xac100a0c, Data: count(40)}
	if b, err := Build(p); !bytes.Equal(b, append(slices.Clone(known), count(40)...)) || err != api.OK {
		t.Errorf("of the textbooks' one: %v, %v", b, err)
	}
	p = api.Datagram{TOS: 1, TTL: 2, Proto: 3, ID: 0x0405, Frag: 0x0607, Src: 0x08090a0b, Dst: 0x0c0d0e0f, Opts: []byte{16, 17, 18, 19}, Data: []byte{20, 21, 22}}
	want := sealed([]byte{70, 1, 0, 27, 4, 5, 6, 7, 2, 3, 0, 0, 8, 9, 10, 11, 12, 13, 14, 15, 16, 17, 18, 19, 20, 21, 22}, 24)
	if b, err := Build(p); !bytes.Equal(b, want) || err != api.OK {
		t.Errorf("of one with options: %v, %v", b, err)
	}
}

func TestBuildByWords(t *testing.T) { // P13.1
	r := rand.New(rand.NewSource(131))
	for range 3000 {
		p := some(r)
		if b, err := Build(p); !bytes.Equal(b, byWords(p)) || err != api.OK {
			t.Fatalf("of %+v: %v, %v", p, b, err)
		}
	}
}

func TestBuildSizes(t *testing.T) { // P13.1
	for _, c := range []struct {
		opts, data int
		want       api.Errno
	}{
		{0, 65515, api.OK}, {0, 65516, api.ErrSize}, {0, 65536, api.ErrSize}, {0, 131072, api.ErrSize},
		{4, 65511, api.OK}, {4, 65512, api.ErrSize},
		{40, 65475, api.OK}, {40, 65476, api.ErrSize}, {40, 65515, api.ErrSize},
		{36, 0, api.OK}, {40, 0, api.OK}, {44, 0, api.ErrSize}, {41, 0, api.ErrSize}, {400, 0, api.ErrSize}, {65540, 0, api.ErrSize},
		{1, 0, api.ErrSize}, {2, 0, api.ErrSize}, {3, 9, api.ErrSize}, {5, 0, api.ErrSize}, {39, 0, api.ErrSize},
	} {
		b, err := Build(api.Datagram{Opts: count(c.opts), Data: count(c.data)})
		if err != c.want || err == api.OK && len(b) != 20+c.opts+c.data || err != api.OK && len(b) != 0 {
			t.Errorf("%d of options, %d of data: %d bytes, %v", c.opts, c.data, len(b), err)
		}
	}
}

func TestParseExamples(t *testing.T) { // P13.2
	b := append(slices.Clone(known), count(40)...)
	want := api.Datagram{TTL: 64, Proto: 6, ID: 0x1c46, Frag: 0x4000, Src: 0xac100a63, Dst: 0xac100a0c, Data: count(40)}
	for _, tail := range []int{0, 1, 2, 100} {
		if p, err := Parse(append(slices.Clone(b), count(tail)...)); !equal(p, want) || err != api.OK {
			t.Errorf("%d bytes behind: %+v, %v", tail, p, err)
		}
	}
	b = sealed([]byte{70, 1, 0, 27, 4, 5, 6, 7, 2, 3, 0, 0, 8, 9, 10, 11, 12, 13, 14, 15, 16, 17, 18, 19, 20, 21, 22}, 24)
	want = api.Datagram{TOS: 1, TTL: 2, Proto: 3, ID: 0x0405, Frag: 0x0607, Src: 0x08090a0b, Dst: 0x0c0d0e0f, Opts: []byte{16, 17, 18, 19}, Data: []byte{20, 21, 22}}
	if p, err := Parse(b); !equal(p, want) || err != api.OK {
		t.Errorf("with options: %+v, %v", p, err)
	}
	b = sealed(append([]byte{79, 0, 0, 60}, make([]byte, 56)...), 60)
	if p, err := Parse(b); !equal(p, api.Datagram{Opts: make([]byte, 40)}) || err != api.OK {
		t.Errorf("of the longest head: %+v, %v", p, err)
	}
}

// turned: the textbooks' datagram, with a byte that is another one; the checksum is right again, if seal says so.
func turned(at int, to byte, seal bool) []byte {
	b := append(slices.Clone(known), count(40)...)
	b[at] = to
	if seal {
		b = sealed(b, 20)
	}
	return b
}

func TestParseOfNone(t *testing.T) { // P13.2
	whole := turned(0, 0x45, false)
	for name, c := range map[string]struct {
		b    []byte
		want api.Errno
	}{
		"nil":                         {nil, api.ErrShort},
		"empty":                       {[]byte{}, api.ErrShort},
		"a byte":                      {whole[:1], api.ErrShort},
		"19 bytes":                    {whole[:19], api.ErrShort},
		"19 of another version":       {turned(0, 0x65, true)[:19], api.ErrShort},
		"the head alone":              {whole[:20], api.ErrShort},
		"a byte too few":              {whole[:59], api.ErrShort},
		"too few, and a wrong sum":    {turned(8, 63, false)[:59], api.ErrShort},
		"version 6":                   {turned(0, 0x65, true), api.ErrForm},
		"version 5":                   {turned(0, 0x55, true), api.ErrForm},
		"version 0":                   {turned(0, 0x05, true), api.ErrForm},
		"version 12":                  {turned(0, 0xc5, true), api.ErrForm},
		"another version, too few":    {turned(0, 0x65, true)[:20], api.ErrForm},
		"a head of 16":                {turned(0, 0x44, true), api.ErrForm},
		"a head of 0":                 {turned(0, 0x40, true), api.ErrForm},
		"all of 19":                   {turned(3, 19, true), api.ErrForm},
		"all of 0":                    {turned(3, 0, true), api.ErrForm},
		"all of 19, a wrong sum":      {turned(3, 19, false), api.ErrForm},
		"a head of more than all":     {sealed(append([]byte{0x46, 0, 0, 23}, count(50)...), 24), api.ErrForm},
		"such a one, too few":         {append([]byte{0x4f, 0, 0, 59}, count(16)...), api.ErrForm},
		"a head of more than is here": {append([]byte{0x4f, 0, 0, 60}, count(16)...), api.ErrShort},
		"all of more than is here":    {turned(2, 1, true), api.ErrShort},
		"all of 61":                   {turned(3, 61, true), api.ErrShort},
		"a wrong sum":                 {turned(8, 63, false), api.ErrSum},
		"a sum of 0":                  {turned(10, 0, false), api.ErrSum},
		"a sum one more":              {turned(11, 0xe7, false), api.ErrSum},
		"all of 59, a wrong sum":      {turned(3, 59, false), api.ErrSum},
		"noughts":                     {make([]byte, 20), api.ErrForm},
	} {
		if p, err := Parse(c.b); !equal(p, api.Datagram{}) || err != c.want {
			t.Errorf("%s: %+v, %v, not %v", name, p, err, c.want)
		}
		if b, ok := Hop(c.b); len(b) != 0 || ok { // P13.3
			t.Errorf("Hop of %s: %v, %v", name, b, ok)
		}
	}
}

func TestSumOfTheHeadAlone(t *testing.T) { // P13.2
	for at := range 60 {
		p, err := Parse(turned(at, turned(0, 0x45, false)[at]^0x10, false))
		if at >= 20 && (err != api.OK || p.Data[at-20] != count(40)[at-20]^0x10) {
			t.Errorf("byte %d of the data is another one: %v", at-20, err)
		}
		if at < 20 && (err == api.OK || !equal(p, api.Datagram{})) {
			t.Errorf("byte %d of the head is another one: %v", at, err)
		}
	}
	b := sealed([]byte{70, 0, 0, 24, 0, 0, 0, 0, 0, 0, 0, 0, 0, 0, 0, 0, 0, 0, 0, 0, 9, 9, 9, 9}, 24)
	b[23] = 8
	if _, err := Parse(b); err != api.ErrSum {
		t.Errorf("an option is another one: %v", err)
	}
}

func TestSumOfEither0(t *testing.T) { // P13.2: bytes that add up to 65535 without it have two right checksums
	b := sealed(append([]byte{69, 0, 0, 20, 0xba, 0xeb, 0, 0}, make([]byte, 12)...), 20)
	for _, c := range []byte{0, 255} {
		b[10], b[11] = c, c
		if p, err := Parse(b); !equal(p, api.Datagram{ID: 0xbaeb}) || err != api.OK {
			t.Errorf("a checksum of %d %d: %+v, %v", c, c, p, err)
		}
	}
}

func TestHopExamples(t *testing.T) { // P13.3
	b := append(slices.Clone(known), count(40)...)
	want := sealed(turned(8, 63, true), 20)
	if got, ok := Hop(b); !bytes.Equal(got, want) || !ok {
		t.Errorf("%v, %v", got, ok)
	}
	long := append(slices.Clone(b), 1, 2, 3) // what stands behind stays
	if got, ok := Hop(long); !bytes.Equal(got, append(slices.Clone(want), 1, 2, 3)) || !ok {
		t.Errorf("with bytes behind: %v, %v", got, ok)
	}
}

func TestHopOfEachTTL(t *testing.T) { // P13.3
	for ttl := range 256 {
		got, ok := Hop(turned(8, byte(ttl), true))
		if ttl < 2 {
			if len(got) != 0 || ok {
				t.Errorf("of %d: %v, %v", ttl, got, ok)
			}
			continue
		}
		if want := turned(8, byte(ttl-1), true); !bytes.Equal(got, want) || !ok {
			t.Errorf("of %d: %v, %v, not %v", ttl, got, ok, want)
		}
	}
}

func TestHopOfEachSum(t *testing.T) { // P13.3
	for n := range 65536 {
		b, _ := Build(api.Datagram{TTL: 2, ID: uint16(n)})
		want, _ := Build(api.Datagram{TTL: 1, ID: uint16(n)})
		if got, ok := Hop(b); !bytes.Equal(got, want) || !ok {
			t.Fatalf("of %v: %v, %v, not %v", b, got, ok, want)
		}
	}
}

func TestHopTurnsTheSum(t *testing.T) { // P13.3: also from the other 0, which Build never writes
	b := append([]byte{69, 0, 0, 20, 0x38, 0xeb, 0, 0, 130, 0, 255, 255}, make([]byte, 8)...)
	want := append([]byte{69, 0, 0, 20, 0x38, 0xeb, 0, 0, 129, 0, 1, 0}, make([]byte, 8)...)
	if got, ok := Hop(b); !bytes.Equal(got, want) || !ok {
		t.Errorf("%v, %v", got, ok)
	}
}

func TestBuiltIsParsed(t *testing.T) { // P13.4
	r := rand.New(rand.NewSource(134))
	for range 5000 {
		p := some(r)
		b, _ := Build(p)
		tail := count(r.Intn(3))
		got, err := Parse(append(b, tail...))
		if !equal(got, p) || err != api.OK {
			t.Fatalf("%+v is parsed as %+v, %v", p, got, err)
		}
		if p.TTL < 2 {
			continue
		}
		far, ok := Hop(append(b, tail...))
		p.TTL--
		if got, err = Parse(far); !equal(got, p) || err != api.OK || !ok {
			t.Fatalf("%+v, a hop on, is parsed as %+v, %v", p, got, err)
		}
	}
}

func TestHopsToTheEnd(t *testing.T) { // P13.4
	b, _ := Build(api.Datagram{TTL: 255, Src: 0x0a000010, Data: []byte{1}})
	hops := 0
	for next, ok := Hop(b); ok; next, ok = Hop(b) {
		b = next
		hops++
	}
	if p, err := Parse(b); hops != 254 || !equal(p, api.Datagram{TTL: 1, Src: 0x0a000010, Data: []byte{1}}) || err != api.OK {
		t.Errorf("%d hops: %+v, %v", hops, p, err)
	}
}

func TestNewMemory(t *testing.T) { // P2, rule 5
	p := api.Datagram{TTL: 9, Opts: count(8), Data: count(9)}
	b, _ := Build(p)
	was := slices.Clone(b)
	got, _ := Parse(b)
	far, _ := Hop(b)
	far[0] = 1
	_ = append(got.Opts, 1, 2, 3)
	got.Opts[0], got.Data[0] = 99, 99
	if !bytes.Equal(b, was) || got.Data[1] != count(9)[1] {
		t.Error("what was handed in to Parse or Hop was changed")
	}
	b[20], b[28] = 77, 77
	if !bytes.Equal(p.Opts, count(8)) || !bytes.Equal(p.Data, count(9)) {
		t.Error("what was handed in to Build was changed")
	}
}

func TestAnyBytes(t *testing.T) { // P1, P2
	r := rand.New(rand.NewSource(13))
	for range 20000 {
		b := make([]byte, r.Intn(80))
		r.Read(b)
		if len(b) > 20 && r.Intn(4) > 0 {
			b[0], b[2], b[3] = byte(0x40+r.Intn(16)), 0, byte(r.Intn(80))
			if head := int(b[0]%16) * 4; r.Intn(4) > 0 && head >= 20 && head <= len(b) {
				b = sealed(b, head)
			}
		}
		p, err := Parse(b)
		again, errAgain := Parse(slices.Clone(b))
		if !equal(p, again) || err != errAgain || err != api.OK && !equal(p, api.Datagram{}) {
			t.Fatalf("Parse(%v): %+v, %v", b, p, err)
		}
		far, ok := Hop(b)
		if ok != (err == api.OK && p.TTL >= 2) || !ok && len(far) != 0 {
			t.Fatalf("Hop(%v): %v, %v", b, far, ok)
		}
	}
}
