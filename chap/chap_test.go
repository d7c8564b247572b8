package chap

import (
	"bytes"
	"crypto/md5"
	"encoding/hex"
	"math"
	"math/rand"
	"slices"
	"strings"
	"testing"

	"catwalk/api"
	"catwalk/cp"
)

// count: so many bytes, that go up.
func count(n int) []byte {
	b := make([]byte, n)
	for i := range b {
		b[i] = byte(i*7 + 1)
	}
	return b
}

// long: a text of so many bytes.
func long(n int) string { return strings.Repeat("x", n) }

// equal: are two packets the same?
func equal(a, b api.Control) bool {
	return a.Code == b.Code && a.ID == b.ID && bytes.Equal(a.Data, b.Data)
}

// none: is it the zero packet?
func none(p api.Control) bool { return p.Code == 0 && p.ID == 0 && len(p.Data) == 0 }

func TestCodes(t *testing.T) {
	if Challenge != 1 || Response != 2 || Success != 3 || Failure != 4 {
		t.Error(Challenge, Response, Success, Failure)
	}
}

func TestValueOfKnownDigests(t *testing.T) { // P28.1: RFC 1321's, the first byte as the identifier
	for _, c := range []struct {
		id        uint8
		key, rest string
		want      string
	}{
		{'a', "", "", "0cc175b9c0f1b6a831c399e269772661"},
		{'a', "b", "c", "900150983cd24fb0d6963f7d28e17f72"},
		{'a', "bc", "", "900150983cd24fb0d6963f7d28e17f72"},
		{'a', "", "bc", "900150983cd24fb0d6963f7d28e17f72"},
		{'m', "essage", " digest", "f96b697d7cb7938d525a2f31aaf161d0"},
	} {
		got := Value(c.id, c.key, []byte(c.rest))
		if hex.EncodeToString(got[:]) != c.want {
			t.Errorf("Value(%d, %q, %q): %x", c.id, c.key, c.rest, got)
		}
	}
}

func TestValueOfAny(t *testing.T) { // P28.1, P2
	r := rand.New(rand.NewSource(281))
	for range 5000 {
		id, key, challenge := uint8(r.Intn(256)), count(r.Intn(60)), make([]byte, r.Intn(300))
		r.Read(key)
		r.Read(challenge)
		want := md5.Sum(slices.Concat([]byte{id}, key, challenge))
		for range 2 {
			if got := Value(id, string(key), challenge); got != want {
				t.Fatalf("Value(%d, %q, %v): %x, not %x", id, key, challenge, got, want)
			}
		}
	}
	if Value(0, "", nil) != md5.Sum([]byte{0}) || Value(0, "", []byte{}) != md5.Sum([]byte{0}) {
		t.Error("of nothing")
	}
}

func TestRight(t *testing.T) { // P28.1
	challenge := count(16)
	want := md5.Sum(slices.Concat([]byte{7}, []byte("key"), challenge))
	if !Right(7, "key", challenge, want[:]) {
		t.Fatal("its value isn't")
	}
	for bit := range 128 {
		other := want
		other[bit/8] ^= 1 << (bit % 8)
		if Right(7, "key", challenge, other[:]) {
			t.Errorf("bit %d is turned", bit)
		}
	}
	for name, value := range map[string][]byte{
		"none":           nil,
		"an empty one":   {},
		"one byte":       want[:1],
		"one byte fewer": want[:15],
		"its end":        want[1:],
		"one more":       append(want[:16:16], 0),
		"twice":          append(want[:16:16], want[:]...),
		"noughts":        make([]byte, 16),
		"the challenge":  challenge,
		"very many":      make([]byte, 70000),
	} {
		if Right(7, "key", challenge, value) {
			t.Errorf("%s is right", name)
		}
	}
	for name, right := range map[string]bool{
		"another identifier":  Right(8, "key", challenge, want[:]),
		"another key":         Right(7, "Key", challenge, want[:]),
		"a shorter key":       Right(7, "ke", challenge, want[:]),
		"no key":              Right(7, "", challenge, want[:]),
		"another challenge":   Right(7, "key", count(16)[1:], want[:]),
		"no challenge":        Right(7, "key", nil, want[:]),
		"key and challenge":   Right(7, string(challenge), []byte("key"), want[:]),
		"of nothing, nothing": Right(0, "", nil, nil),
	} {
		if right {
			t.Errorf("%s: it is right", name)
		}
	}
}

func TestBytes(t *testing.T) { // P28.1
	for _, c := range []struct {
		l    []uint32
		want []byte
	}{
		{nil, nil},
		{[]uint32{}, nil},
		{[]uint32{0}, []byte{0, 0, 0, 0}},
		{[]uint32{1}, []byte{0, 0, 0, 1}},
		{[]uint32{0x01020304}, []byte{1, 2, 3, 4}},
		{[]uint32{math.MaxUint32}, []byte{255, 255, 255, 255}},
		{[]uint32{0x80000000, 0xff00fe00, 5, 0x00010203}, []byte{128, 0, 0, 0, 255, 0, 254, 0, 0, 0, 0, 5, 0, 1, 2, 3}},
	} {
		if got := Bytes(c.l...); !bytes.Equal(got, c.want) {
			t.Errorf("Bytes(%x): %v", c.l, got)
		}
	}
	many := make([]uint32, 1000)
	many[999] = 0xa0b0c0d0
	if got := Bytes(many...); len(got) != 4000 || !bytes.Equal(got[3992:], []byte{0, 0, 0, 0, 160, 176, 192, 208}) {
		t.Errorf("of many: %d bytes", len(got))
	}
}

func TestExample(t *testing.T) { // P28.2: the chapter's
	p, err := Make(1, 7, []byte{9}, "a")
	if got := cp.Build(p); !bytes.Equal(got, []byte{1, 7, 0, 7, 1, 9, 97}) || err != api.OK {
		t.Error(got, err)
	}
	value, name, err := Split(p)
	if !bytes.Equal(value, []byte{9}) || name != "a" || err != api.OK {
		t.Error(value, name, err)
	}
}

func TestMake(t *testing.T) { // P28.2
	for _, c := range []struct {
		code, id uint8
		value    []byte
		name     string
		want     []byte // its data
	}{
		{1, 0, []byte{0}, "", []byte{1, 0}},
		{2, 255, []byte{1, 2, 3}, "abc", []byte{3, 1, 2, 3, 97, 98, 99}},
		{1, 1, []byte{1}, "\x00\xff", []byte{1, 1, 0, 255}},
		{2, 9, count(255), "n", append(append([]byte{255}, count(255)...), 'n')},
		{1, 9, count(254), "", append([]byte{254}, count(254)...)},
		{1, 9, []byte{5}, long(255), append([]byte{1, 5}, long(255)...)},
		{2, 9, count(255), long(255), append(append([]byte{255}, count(255)...), long(255)...)},
	} {
		p, err := Make(c.code, c.id, c.value, c.name)
		if !equal(p, api.Control{Code: c.code, ID: c.id, Data: c.want}) || err != api.OK {
			t.Errorf("Make(%d, %d, %v, %q): %+v, %v", c.code, c.id, c.value, c.name, p, err)
		}
	}
}

func TestMakeOfEachLength(t *testing.T) { // P28.2
	for n := range 600 {
		for _, m := range []int{0, 1, 254, 255, 256, 512, n} {
			want := api.OK
			if n < 1 || n > 255 || m > 255 {
				want = api.ErrSize
			}
			for code := range 256 {
				if code > 4 && code%50 != 0 {
					continue
				}
				err := want
				if code != 1 && code != 2 {
					err = api.ErrArg // named first
				}
				p, got := Make(uint8(code), 5, count(n), long(m))
				if got != err || (err != api.OK && !none(p)) {
					t.Errorf("code %d, %d bytes, a name of %d: %v, not %v", code, n, m, got, err)
				}
			}
		}
	}
}

func TestMakeOfNone(t *testing.T) { // P28.2
	for _, c := range []struct {
		name string
		code uint8
		v    []byte
		n    string
		want api.Errno
	}{
		{"no value", 1, nil, "a", api.ErrSize},
		{"an empty value", 2, []byte{}, "a", api.ErrSize},
		{"256 bytes", 1, count(256), "a", api.ErrSize},
		{"very many", 2, count(70000), "a", api.ErrSize},
		{"a name of 256", 2, count(16), long(256), api.ErrSize},
		{"a very long name", 1, count(16), long(70000), api.ErrSize},
		{"the code 0", 0, count(16), "a", api.ErrArg},
		{"a Success", 3, count(16), "a", api.ErrArg},
		{"a Failure", 4, count(16), "a", api.ErrArg},
		{"the code 255", 255, count(16), "a", api.ErrArg},
		{"another code, no value", 3, nil, "a", api.ErrArg},
		{"another code, a name too long", 0, count(16), long(256), api.ErrArg},
	} {
		if p, err := Make(c.code, 7, c.v, c.n); err != c.want || !none(p) {
			t.Errorf("%s: %+v, %v, not %v", c.name, p, err, c.want)
		}
	}
}

func TestEachCode(t *testing.T) { // P28.2
	for code := range 256 {
		want := api.ErrArg
		if code == 1 || code == 2 {
			want = api.OK
		}
		p, err := Make(uint8(code), 7, []byte{9}, "a")
		if err != want || (err != api.OK && !none(p)) {
			t.Errorf("Make of the code %d: %+v, %v", code, p, err)
		}
		value, name, err := Split(api.Control{Code: uint8(code), ID: 7, Data: []byte{1, 9, 97}})
		if err != want || (err != api.OK && (len(value) > 0 || name != "")) {
			t.Errorf("Split of the code %d: %v, %q, %v", code, value, name, err)
		}
	}
}

func TestSplit(t *testing.T) { // P28.2
	for _, c := range []struct {
		name  string
		code  uint8
		data  []byte
		value []byte
		whose string
		want  api.Errno
	}{
		{"a value and a name", 1, []byte{2, 8, 9, 97, 98}, []byte{8, 9}, "ab", api.OK},
		{"no name", 2, []byte{2, 8, 9}, []byte{8, 9}, "", api.OK},
		{"a name of a byte 0", 2, []byte{1, 0, 0}, []byte{0}, "\x00", api.OK},
		{"a name of no letters", 2, []byte{1, 5, 255, 254}, []byte{5}, "\xff\xfe", api.OK},
		{"255 bytes", 1, append([]byte{255}, count(255)...), count(255), "", api.OK},
		{"a name longer than one that is made", 1, append([]byte{1, 5}, long(1000)...), []byte{5}, long(1000), api.OK},
		{"no data", 1, nil, nil, "", api.ErrShort},
		{"empty data", 2, []byte{}, nil, "", api.ErrShort},
		{"a value of none", 1, []byte{0}, nil, "", api.ErrForm},
		{"a value of none, and a name", 2, []byte{0, 97, 98}, nil, "", api.ErrForm},
		{"the length alone", 1, []byte{1}, nil, "", api.ErrShort},
		{"one byte too few", 2, []byte{3, 8, 9}, nil, "", api.ErrShort},
		{"254 of 255", 2, append([]byte{255}, count(254)...), nil, "", api.ErrShort},
		{"another code, no data", 3, nil, nil, "", api.ErrArg},
		{"another code, a value of none", 4, []byte{0}, nil, "", api.ErrArg},
		{"another code, too few", 0, []byte{9}, nil, "", api.ErrArg},
	} {
		value, whose, err := Split(api.Control{Code: c.code, ID: 3, Data: c.data})
		if !bytes.Equal(value, c.value) || whose != c.whose || err != c.want {
			t.Errorf("%s: %v, %q, %v, not %v", c.name, value, whose, err, c.want)
		}
	}
}

func TestSplitOfEachLength(t *testing.T) { // P28.2
	for size := range 256 {
		for many := range 260 {
			data := append([]byte{byte(size)}, count(many)...)
			want := api.OK
			switch {
			case size == 0:
				want = api.ErrForm
			case many < size:
				want = api.ErrShort
			}
			var value, whose []byte
			if want == api.OK {
				value, whose = count(many)[:size], count(many)[size:]
			}
			got, name, err := Split(api.Control{Code: 2, Data: data})
			if !bytes.Equal(got, value) || name != string(whose) || err != want {
				t.Fatalf("%d bytes, of a length of %d: %v, %q, %v", many, size, got, name, err)
			}
		}
	}
}

func TestMadeIsSplit(t *testing.T) { // P28.3
	r := rand.New(rand.NewSource(283))
	for range 5000 {
		value, name := make([]byte, 1+r.Intn(255)), make([]byte, r.Intn(256))
		r.Read(value)
		r.Read(name)
		code, id := uint8(1+r.Intn(2)), uint8(r.Intn(256))
		p, err := Make(code, id, value, string(name))
		if err != api.OK || p.Code != code || p.ID != id {
			t.Fatalf("Make(%d, %d, %v, %q): %+v, %v", code, id, value, name, p, err)
		}
		through, err := cp.Parse(cp.Build(p))
		if err != api.OK || !equal(p, through) {
			t.Fatalf("%+v is parsed as %+v, %v", p, through, err)
		}
		got, whose, err := Split(through)
		if err != api.OK || !bytes.Equal(got, value) || whose != string(name) {
			t.Fatalf("%v, %q are split as %v, %q, %v", value, name, got, whose, err)
		}
	}
}

func TestWhoHasTheKeyIsRight(t *testing.T) { // P28.3
	r := rand.New(rand.NewSource(284))
	for range 2000 {
		id, key := uint8(r.Intn(256)), string(count(1+r.Intn(40)))
		asked, err := Make(Challenge, id, Bytes(r.Uint32(), r.Uint32(), r.Uint32(), r.Uint32()), "server")
		challenge, _, _ := Split(asked)
		if err != api.OK || len(challenge) != 16 {
			t.Fatal(asked, err)
		}
		digest := Value(asked.ID, key, challenge)
		said, err := Make(Response, asked.ID, digest[:], "client")
		value, name, bad := Split(said)
		if err != api.OK || bad != api.OK || name != "client" || !Right(id, key, challenge, value) {
			t.Fatalf("%+v, %v, %v: it isn't right", said, err, bad)
		}
		if Right(id, key+"x", challenge, value) || Right(id+1, key, challenge, value) || Right(id, key, challenge[1:], value) {
			t.Fatalf("%+v is right for another key, identifier or challenge", said)
		}
	}
}

func TestAnyPacket(t *testing.T) { // P1, P2
	r := rand.New(rand.NewSource(282))
	for range 20000 {
		p := api.Control{Code: uint8(r.Intn(5)), ID: uint8(r.Intn(256)), Data: make([]byte, r.Intn(300))}
		r.Read(p.Data)
		was := slices.Clone(p.Data)
		value, name, err := Split(p)
		again, nameAgain, errAgain := Split(p)
		if !bytes.Equal(value, again) || name != nameAgain || err != errAgain || !bytes.Equal(p.Data, was) {
			t.Fatalf("Split(%+v): %v, %q, %v, or %v, %q, %v", p, value, name, err, again, nameAgain, errAgain)
		}
		if err != api.OK {
			if len(value) > 0 || name != "" {
				t.Fatalf("Split(%+v): %v, %q, %v", p, value, name, err)
			}
			continue
		}
		if built, err := Make(p.Code, p.ID, value, name); len(name) < 256 && (err != api.OK || !equal(built, p)) {
			t.Fatalf("%+v is made as %+v, %v", p, built, err)
		}
	}
}

func TestNewMemory(t *testing.T) { // rule 5
	value := append(make([]byte, 0, 100), 1, 2, 3)
	p, _ := Make(Challenge, 7, value, "ab")
	value[0] = 99
	_ = append(value, 98)
	if !bytes.Equal(p.Data, []byte{3, 1, 2, 3, 97, 98}) {
		t.Errorf("the packet is turned: %v", p.Data)
	}
	got, name, _ := Split(p)
	got[0] = 77
	_ = append(got, 76)
	if !bytes.Equal(p.Data, []byte{3, 1, 2, 3, 97, 98}) {
		t.Errorf("the packet is turned: %v", p.Data)
	}
	p.Data[3], p.Data[4] = 55, 55
	if !bytes.Equal(got, []byte{77, 2, 3}) || name != "ab" {
		t.Errorf("what was split is turned: %v, %q", got, name)
	}
	l, challenge := []uint32{1, 2}, count(16)
	first := Bytes(l...)
	first[0] = 66
	digest := Value(1, "key", challenge)
	Right(1, "key", challenge, digest[:])
	if !bytes.Equal(Bytes(l...), []byte{0, 0, 0, 1, 0, 0, 0, 2}) || !slices.Equal(l, []uint32{1, 2}) || !bytes.Equal(challenge, count(16)) || digest != Value(1, "key", challenge) {
		t.Error("what was handed in is turned")
	}
}
