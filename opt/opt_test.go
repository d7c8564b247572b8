package opt

import (
	"bytes"
	"math/rand"
	"slices"
	"testing"

	"catwalk/api"
)

// row: options of types, each with so many bytes of data as its type says by ten.
func row(types ...uint8) []api.Option {
	var l []api.Option
	for i, t := range types {
		l = append(l, api.Option{Type: t, Data: bytes.Repeat([]byte{byte(i + 1)}, int(t%10))})
	}
	return l
}

// count: so many bytes, that go up.
func count(n int) []byte {
	b := make([]byte, n)
	for i := range b {
		b[i] = byte(i * 7)
	}
	return b
}

// equal: are two rows the same, asked without the package?
func equal(a, b []api.Option) bool {
	if len(a) != len(b) {
		return false
	}
	for i := range a {
		if a[i].Type != b[i].Type || string(a[i].Data) != string(b[i].Data) {
			return false
		}
	}
	return true
}

// some: a row of a few options, none with more than most bytes.
func some(r *rand.Rand, most int) []api.Option {
	var l []api.Option
	for range r.Intn(6) {
		data := make([]byte, r.Intn(most+1))
		r.Read(data)
		l = append(l, api.Option{Type: uint8(r.Intn(256)), Data: data})
	}
	return l
}

func TestBuild(t *testing.T) { // P10.1
	for _, c := range []struct {
		l    []api.Option
		want []byte
	}{
		{[]api.Option{{Type: 1, Data: []byte{5, 220}}}, []byte{1, 4, 5, 220}}, // the chapter's example
		{nil, nil},
		{[]api.Option{}, nil},
		{[]api.Option{{}}, []byte{0, 2}},
		{[]api.Option{{Type: 255}}, []byte{255, 2}},
		{[]api.Option{{Type: 7, Data: []byte{}}}, []byte{7, 2}},
		{[]api.Option{{Type: 3, Data: []byte{192, 35, 5}}, {Type: 7}, {Type: 3, Data: []byte{9}}}, []byte{3, 5, 192, 35, 5, 7, 2, 3, 3, 9}},
		{[]api.Option{{Type: 2, Data: count(252)}}, append([]byte{2, 254}, count(252)...)},
		{[]api.Option{{Type: 2, Data: count(253)}}, append([]byte{2, 255}, count(253)...)},
		{[]api.Option{{Type: 2, Data: count(254)}}, append([]byte{2, 255}, count(253)...)},
		{[]api.Option{{Type: 2, Data: count(255)}}, append([]byte{2, 255}, count(253)...)},
		{[]api.Option{{Type: 2, Data: count(256)}}, append([]byte{2, 255}, count(253)...)},
		{[]api.Option{{Type: 2, Data: count(70000)}, {Type: 3, Data: []byte{1}}}, append(append([]byte{2, 255}, count(253)...), 3, 3, 1)},
	} {
		if got := Build(c.l); !bytes.Equal(got, c.want) {
			t.Errorf("Build of %d options: %v, not %v", len(c.l), got, c.want)
		}
	}
}

func TestParse(t *testing.T) { // P10.1
	for _, c := range []struct {
		b    []byte
		want []api.Option
	}{
		{nil, nil},
		{[]byte{}, nil},
		{[]byte{1, 4, 5, 220}, []api.Option{{Type: 1, Data: []byte{5, 220}}}},
		{[]byte{0, 2}, []api.Option{{}}},
		{[]byte{0, 2, 0, 2}, []api.Option{{}, {}}},
		{[]byte{3, 5, 192, 35, 5, 7, 2, 3, 3, 9}, []api.Option{{Type: 3, Data: []byte{192, 35, 5}}, {Type: 7}, {Type: 3, Data: []byte{9}}}},
		{append([]byte{255, 255}, count(253)...), []api.Option{{Type: 255, Data: count(253)}}},
		{append(append([]byte{255, 255}, count(253)...), 1, 3, 1), []api.Option{{Type: 255, Data: count(253)}, {Type: 1, Data: []byte{1}}}},
	} {
		if got, err := Parse(c.b); !equal(got, c.want) || err != api.OK {
			t.Errorf("Parse(%v): %v, %v", c.b, got, err)
		}
	}
}

func TestParseOfNone(t *testing.T) { // P10.1
	for _, c := range []struct {
		b    []byte
		want api.Errno
	}{
		{[]byte{0}, api.ErrShort},
		{[]byte{1}, api.ErrShort},
		{[]byte{255}, api.ErrShort},
		{[]byte{1, 4, 5, 220, 1}, api.ErrShort},
		{[]byte{1, 0}, api.ErrForm},
		{[]byte{1, 1}, api.ErrForm},
		{[]byte{1, 0, 3, 4, 5}, api.ErrForm},
		{[]byte{1, 1, 3, 4, 5}, api.ErrForm},
		{[]byte{1, 3}, api.ErrShort},
		{[]byte{1, 4, 5}, api.ErrShort},
		{[]byte{1, 255}, api.ErrShort},
		{append([]byte{1, 255}, count(252)...), api.ErrShort},
		{[]byte{7, 2, 1, 4, 5}, api.ErrShort},
		{[]byte{7, 2, 7, 1, 7, 3}, api.ErrForm},  // the second is none: its length
		{[]byte{7, 3, 1, 7, 9, 1}, api.ErrShort}, // the second is none: its bytes
		{[]byte{7, 9, 1, 1}, api.ErrShort},       // what would be none behind isn't reached
		{[]byte{7, 1, 9}, api.ErrForm},
	} {
		if got, err := Parse(c.b); len(got) != 0 || err != c.want {
			t.Errorf("Parse(%v): %v, %v, not %v", c.b, got, err, c.want)
		}
	}
}

// byWords: what Parse is to answer, by the chapter's words.
func byWords(b []byte) ([]api.Option, api.Errno) {
	if len(b) == 0 {
		return nil, api.OK
	}
	if len(b) == 1 {
		return nil, api.ErrShort
	}
	n := int(b[1])
	if n < 2 {
		return nil, api.ErrForm
	}
	if len(b) < n {
		return nil, api.ErrShort
	}
	rest, err := byWords(b[n:])
	if err != api.OK {
		return nil, err
	}
	return append([]api.Option{{Type: b[0], Data: b[2:n]}}, rest...), api.OK
}

func TestParseOfAny(t *testing.T) { // P10.1
	r := rand.New(rand.NewSource(10))
	seen := map[api.Errno]int{}
	for range 100000 {
		b := make([]byte, r.Intn(12))
		for i := range b {
			b[i] = byte(r.Intn(6))
		}
		want, wrong := byWords(b)
		got, err := Parse(b)
		if !equal(got, want) || err != wrong {
			t.Fatalf("Parse(%v): %v, %v, not %v, %v", b, got, err, want, wrong)
		}
		seen[err]++
	}
	if seen[api.OK] == 0 || seen[api.ErrShort] == 0 || seen[api.ErrForm] == 0 {
		t.Fatal(seen)
	}
}

func TestParseOfEachCut(t *testing.T) { // P10.1
	l := []api.Option{{Type: 1, Data: []byte{5, 220}}, {Type: 7}, {Type: 3, Data: []byte{192, 35, 5}}}
	b := Build(l)
	whole := map[int]int{0: 0, 4: 1, 6: 2, 11: 3} // how many options there are in so many bytes
	for cut := range len(b) + 1 {
		many, ok := whole[cut]
		got, err := Parse(b[:cut])
		if ok && (err != api.OK || !equal(got, l[:many])) || !ok && (err != api.ErrShort || len(got) != 0) {
			t.Errorf("the first %d bytes: %v, %v", cut, got, err)
		}
	}
}

func TestFind(t *testing.T) { // P10.2
	l := []api.Option{{Type: 3, Data: []byte{1, 2}}, {Type: 5}, {Type: 0, Data: []byte{7}}, {Type: 3, Data: []byte{9}}, {Type: 255, Data: []byte{8}}}
	for n := range 256 {
		var want api.Option
		there := false
		for i := len(l) - 1; i >= 0; i-- {
			if int(l[i].Type) == n {
				want, there = l[i], true
			}
		}
		got, ok := Find(l, uint8(n))
		if ok != there || !equal([]api.Option{got}, []api.Option{want}) {
			t.Errorf("Find of type %d: %v, %v", n, got, ok)
		}
	}
	if got, ok := Find(l, 3); !ok || !bytes.Equal(got.Data, []byte{1, 2}) {
		t.Error("the first of two", got, ok)
	}
	for _, none := range [][]api.Option{nil, {}} {
		if got, ok := Find(none, 0); ok || got.Type != 0 || len(got.Data) != 0 {
			t.Error("in none", got, ok)
		}
	}
}

func TestFindOfLongData(t *testing.T) { // P10.2: the option is as it stands in the row
	if got, ok := Find([]api.Option{{Type: 1, Data: count(300)}}, 1); !ok || !bytes.Equal(got.Data, count(300)) {
		t.Error(len(got.Data), ok)
	}
}

func TestSame(t *testing.T) { // P10.2
	for _, c := range []struct {
		a, b []api.Option
		want bool
	}{
		{nil, nil, true},
		{nil, []api.Option{}, true},
		{[]api.Option{}, []api.Option{}, true},
		{nil, row(1), false},
		{nil, []api.Option{{}}, false},
		{row(12), row(12), true},
		{row(12, 13, 12), row(12, 13, 12), true},
		{row(12, 13), row(12), false},
		{row(11, 21), row(21, 11), false},
		{row(10, 20), row(20, 10), false}, // two without data: their types alone tell
		{row(12), row(22), false},
		{[]api.Option{{Type: 1, Data: nil}}, []api.Option{{Type: 1, Data: []byte{}}}, true},
		{[]api.Option{{Type: 1, Data: []byte{0}}}, []api.Option{{Type: 1}}, false},
		{[]api.Option{{Type: 1, Data: []byte{1, 2}}}, []api.Option{{Type: 1, Data: []byte{1, 3}}}, false},
		{[]api.Option{{Type: 1, Data: []byte{1, 2}}}, []api.Option{{Type: 1, Data: []byte{2, 1}}}, false},
		{[]api.Option{{Type: 1, Data: []byte{1, 2}}}, []api.Option{{Type: 1, Data: []byte{1, 2, 3}}}, false},
		{[]api.Option{{Type: 1, Data: []byte{1}}, {Type: 2, Data: []byte{5}}}, []api.Option{{Type: 1, Data: []byte{1}}, {Type: 2, Data: []byte{6}}}, false},
		{[]api.Option{{Type: 1, Data: []byte{1}}, {Type: 2, Data: []byte{5}}}, []api.Option{{Type: 1, Data: []byte{1}}, {Type: 3, Data: []byte{5}}}, false},
		{[]api.Option{{Type: 1, Data: count(253)}}, []api.Option{{Type: 1, Data: count(254)}}, false}, // though they are built alike
	} {
		if Same(c.a, c.b) != c.want || Same(c.b, c.a) != c.want {
			t.Errorf("Same(%v, %v) isn't %v", c.a, c.b, c.want)
		}
	}
}

func TestSameOfAny(t *testing.T) { // P10.2
	r := rand.New(rand.NewSource(102))
	same := 0
	for range 50000 {
		var l [2][]api.Option
		for i := range l {
			for range r.Intn(3) {
				l[i] = append(l[i], api.Option{Type: uint8(r.Intn(2)), Data: count(r.Intn(3))})
			}
		}
		want := equal(l[0], l[1])
		if got := Same(l[0], l[1]); got != want {
			t.Fatalf("Same(%v, %v): %v", l[0], l[1], got)
		}
		if want {
			same++
		}
	}
	if same == 0 {
		t.Fatal("none was the same")
	}
}

func TestTwice(t *testing.T) { // P10.2
	each := make([]uint8, 256)
	for i := range each {
		each[i] = uint8(i)
	}
	for _, c := range []struct {
		types []uint8
		want  bool
	}{
		{nil, false},
		{[]uint8{0}, false},
		{[]uint8{255}, false},
		{[]uint8{0, 0}, true},
		{[]uint8{255, 255}, true},
		{[]uint8{1, 2}, false},
		{[]uint8{2, 1}, false},
		{[]uint8{1, 2, 1}, true},
		{[]uint8{1, 2, 2}, true},
		{[]uint8{1, 1, 2}, true},
		{[]uint8{1, 2, 3, 4, 5}, false},
		{[]uint8{1, 2, 3, 4, 1}, true},
		{each, false},
		{append(slices.Clone(each), 0), true},
		{append(slices.Clone(each), 255), true},
	} {
		if got := Twice(row(c.types...)); got != c.want {
			t.Errorf("Twice of types %v: %v", c.types, got)
		}
	}
	if !Twice([]api.Option{{Type: 1, Data: []byte{1}}, {Type: 1, Data: []byte{2}}}) {
		t.Error("the type is there twice, whatever the data are")
	}
	if Twice([]api.Option{{Type: 1, Data: []byte{1}}, {Type: 2, Data: []byte{1}}}) {
		t.Error("the data alone are there twice")
	}
	if Twice([]api.Option{}) {
		t.Error("an empty list")
	}
}

func TestTwiceOfAny(t *testing.T) { // P10.2
	r := rand.New(rand.NewSource(103))
	for range 20000 {
		types := make([]uint8, r.Intn(6))
		for i := range types {
			types[i] = uint8(r.Intn(12)) * 23
		}
		want := false
		for i, n := range types {
			want = want || slices.Contains(types[:i], n)
		}
		if got := Twice(row(types...)); got != want {
			t.Fatalf("Twice of types %v: %v", types, got)
		}
	}
}

func TestWhatWasBuiltIsParsed(t *testing.T) { // P10.3
	r := rand.New(rand.NewSource(104))
	for range 5000 {
		l := some(r, 253)
		got, err := Parse(Build(l))
		if err != api.OK || !equal(got, l) || !Same(got, l) {
			t.Fatalf("%v became %v, %v", l, got, err)
		}
	}
	for n := range 254 {
		l := []api.Option{{Type: uint8(n), Data: count(n)}, {Type: 255 - uint8(n), Data: count(253 - n)}}
		if got, err := Parse(Build(l)); err != api.OK || !equal(got, l) {
			t.Fatalf("%d bytes: %v, %v", n, got, err)
		}
	}
}

func TestWhatIsParsedIsBuilt(t *testing.T) { // P10.1, P10.3
	r := rand.New(rand.NewSource(105))
	for range 50000 {
		b := make([]byte, r.Intn(12))
		for i := range b {
			b[i] = byte(r.Intn(5))
		}
		if l, err := Parse(b); err == api.OK && !bytes.Equal(Build(l), b) {
			t.Fatalf("%v became %v", b, Build(l))
		}
	}
}

func TestParseAnswersNewMemory(t *testing.T) { // rule 5
	b := []byte{1, 4, 5, 220, 2, 3, 9, 3, 2}
	was := slices.Clone(b)
	got, _ := Parse(b)
	again, _ := Parse(b)
	for i := range got {
		for j := range got[i].Data {
			got[i].Data[j] = 99
		}
		_ = append(got[i].Data, 88, 77, 66)
	}
	if !bytes.Equal(b, was) {
		t.Fatal("what was handed in is turned", b)
	}
	want := []api.Option{{Type: 1, Data: []byte{5, 220}}, {Type: 2, Data: []byte{9}}, {Type: 3}}
	if !equal(again, want) {
		t.Fatal("two answers hang together", again)
	}
	b[2], b[6] = 55, 55
	if !equal(again, want) {
		t.Fatal("what was handed in is kept", again)
	}
}

func TestBuildAnswersNewMemory(t *testing.T) { // rule 5
	l := []api.Option{{Type: 1, Data: append(make([]byte, 0, 32), 5, 220)}, {Type: 2, Data: count(300)}}
	was := []api.Option{{Type: 1, Data: []byte{5, 220}}, {Type: 2, Data: count(300)}}
	got := Build(l)
	for i := range got {
		got[i] = 99
	}
	if !equal(l, was) || !bytes.Equal(l[0].Data[:4], []byte{5, 220, 0, 0}) {
		t.Fatal("what was handed in is turned", l)
	}
}

func TestFindAnswersNewMemory(t *testing.T) { // rule 5
	l := []api.Option{{Type: 1, Data: append(make([]byte, 0, 32), 5, 220)}}
	got, _ := Find(l, 1)
	got.Data[0] = 99
	_ = append(got.Data, 88)
	if l[0].Data[0] != 5 || l[0].Data[:3][2] != 0 {
		t.Fatal("what was handed in is turned", l)
	}
}
