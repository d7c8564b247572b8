package cidr

import (
	"math"
	"math/rand"
	"slices"
	"testing"

	"catwalk/addr"
	"catwalk/api"
)

// ip: the address of four numbers.
func ip(a, b, c, d byte) api.Addr { return addr.Of([4]byte{a, b, c, d}) }

// read: the prefixes of texts.
func read(t *testing.T, l ...string) []api.Prefix {
	t.Helper()
	var out []api.Prefix
	for _, s := range l {
		p, err := Read(s)
		if err != api.OK {
			t.Fatalf("Read(%q): %v", s, err)
		}
		out = append(out, p)
	}
	return out
}

// same: a list is that of texts.
func same(t *testing.T, how string, got []api.Prefix, want ...string) {
	t.Helper()
	var texts []string
	for _, p := range got {
		texts = append(texts, Text(p))
	}
	if !slices.Equal(texts, want) {
		t.Errorf("%s: %q, not %q", how, texts, want)
	}
}

// edges are numbers of bits of every kind.
var edges = []int{math.MinInt, math.MinInt + 1, -1 << 40, -64, -33, -32, -31, -1, 0, 1, 8, 31, 32, 33, 63, 64, 65, 1<<32 + 8, 1 << 40, math.MaxInt - 1, math.MaxInt}

// firsts: the first so many bits of an address, as a text, bit by bit.
func firsts(a api.Addr, many int) string {
	var out []byte
	for i := range many {
		out = append(out, '0'+byte(uint64(a)/(1<<(31-i))%2))
	}
	return string(out)
}

// isRight: the chapter's words, bit by bit.
func isRight(p api.Prefix) bool {
	if p.Bits < 0 || p.Bits > 32 {
		return false
	}
	for _, c := range firsts(p.Addr, 32)[p.Bits:] {
		if c != '0' {
			return false
		}
	}
	return true
}

// some: prefixes and addresses of every kind; many of them lie near each other.
func some(r *rand.Rand) (api.Prefix, api.Addr) {
	a := api.Addr(r.Uint32())
	if r.Intn(2) == 0 {
		a = ip(10, 0, 0, 0) | a&7
	}
	p := api.Prefix{Addr: a, Bits: r.Intn(37) - 2}
	if r.Intn(3) > 0 {
		p = Of(a, p.Bits)
	}
	return p, a ^ api.Addr(1<<r.Intn(32))
}

func TestRight(t *testing.T) { // P26.1
	for _, c := range []struct {
		a    api.Addr
		bits int
		want bool
	}{
		{0, 0, true},
		{1, 0, false},
		{1 << 31, 0, false},
		{1 << 31, 1, true},
		{1 << 30, 1, false},
		{ip(10, 0, 0, 0), 8, true},
		{ip(10, 0, 0, 0), 7, true},
		{ip(10, 0, 0, 0), 6, false},
		{ip(10, 0, 0, 1), 8, false},
		{ip(10, 0, 0, 1), 31, false},
		{ip(10, 0, 0, 1), 32, true},
		{math.MaxUint32, 32, true},
		{math.MaxUint32, 31, false},
	} {
		if Right(api.Prefix{Addr: c.a, Bits: c.bits}) != c.want {
			t.Errorf("Right(%v, %d): %v", addr.Text(c.a), c.bits, !c.want)
		}
	}
	for _, bits := range edges {
		if p := (api.Prefix{Bits: bits}); Right(p) != (bits >= 0 && bits <= 32) {
			t.Errorf("Right of %d bits", bits)
		}
	}
	r := rand.New(rand.NewSource(261))
	for range 20000 {
		if p, _ := some(r); Right(p) != isRight(p) {
			t.Errorf("Right(%v): %v", p, Right(p))
		}
	}
}

func TestOf(t *testing.T) { // P26.1
	for _, a := range []api.Addr{0, 1, ip(10, 1, 2, 3), 1 << 31, math.MaxUint32} {
		for _, bits := range edges {
			p := Of(a, bits)
			if p.Bits != min(max(bits, 0), 32) || !isRight(p) || firsts(p.Addr, p.Bits) != firsts(a, p.Bits) {
				t.Errorf("Of(%v, %d): %v", a, bits, p)
			}
		}
	}
	same(t, "of 10.1.2.3", []api.Prefix{Of(ip(10, 1, 2, 3), 8), Of(ip(10, 1, 2, 3), 31), Of(ip(10, 1, 2, 3), 99), Of(ip(10, 1, 2, 3), -1)},
		"10.0.0.0/8", "10.1.2.2/31", "10.1.2.3/32", "0.0.0.0/0")
}

func TestHas(t *testing.T) { // P26.1
	p := api.Prefix{Addr: ip(10, 0, 0, 16), Bits: 28}
	for a, want := range map[api.Addr]bool{
		ip(10, 0, 0, 15): false, ip(10, 0, 0, 16): true, ip(10, 0, 0, 31): true, ip(10, 0, 0, 32): false, ip(11, 0, 0, 16): false, 0: false,
	} {
		if Has(p, a) != want {
			t.Errorf("Has(%v): %v", addr.Text(a), !want)
		}
	}
	for _, p := range []api.Prefix{{Addr: 1, Bits: 0}, {Addr: 1, Bits: 31}, {Addr: 0, Bits: -1}, {Addr: 0, Bits: 33}, {Addr: 5, Bits: math.MaxInt}, {Addr: 5, Bits: math.MinInt}} {
		if Has(p, p.Addr) || Has(p, 0) {
			t.Errorf("Has of %v, that isn't Right", p)
		}
	}
	r := rand.New(rand.NewSource(262))
	for range 20000 {
		p, a := some(r)
		for _, a := range []api.Addr{a, p.Addr} {
			want := isRight(p) && firsts(a, max(p.Bits, 0)) == firsts(p.Addr, max(p.Bits, 0))
			if Has(p, a) != want {
				t.Errorf("Has(%v, %v): %v", p, a, !want)
			}
		}
	}
}

func TestWithin(t *testing.T) { // P26.1
	for _, c := range []struct {
		p, q string
		want bool
	}{
		{"10.0.0.0/8", "10.0.0.0/8", true},
		{"10.0.0.0/9", "10.0.0.0/8", true},
		{"10.128.0.0/9", "10.0.0.0/8", true},
		{"10.0.0.0/8", "10.0.0.0/9", false},
		{"11.0.0.0/9", "10.0.0.0/8", false},
		{"0.0.0.0/0", "0.0.0.0/0", true},
		{"255.255.255.255/32", "0.0.0.0/0", true},
		{"0.0.0.0/0", "0.0.0.0/1", false},
		{"10.0.0.1/32", "10.0.0.1/32", true},
		{"10.0.0.1/32", "10.0.0.0/32", false},
	} {
		l := read(t, c.p, c.q)
		if Within(l[0], l[1]) != c.want {
			t.Errorf("Within(%s, %s): %v", c.p, c.q, !c.want)
		}
	}
	all := api.Prefix{}
	for _, p := range []api.Prefix{{Addr: 1, Bits: 31}, {Bits: -1}, {Bits: 33}, {Bits: math.MaxInt}, {Bits: math.MinInt}} {
		if Within(p, p) || Within(p, all) || Within(all, p) || Within(api.Prefix{Bits: 32}, p) {
			t.Errorf("Within with %v, that isn't Right", p)
		}
	}
	r := rand.New(rand.NewSource(263))
	for range 20000 {
		p, a := some(r)
		q := Of(a, r.Intn(33))
		if !isRight(p) {
			if Within(p, q) || Within(q, p) {
				t.Errorf("Within with %v", p)
			}
			continue
		}
		end := p.Addr | api.Addr(uint64(math.MaxUint32)>>p.Bits)
		if want := Has(q, p.Addr) && Has(q, end); Within(p, q) != want {
			t.Errorf("Within(%v, %v): %v", p, q, !want)
		}
	}
}

func TestText(t *testing.T) { // P26.2
	for want, p := range map[string]api.Prefix{
		"0.0.0.0/0":                   {},
		"10.0.0.0/8":                  {Addr: ip(10, 0, 0, 0), Bits: 8},
		"255.255.255.255/32":          {Addr: math.MaxUint32, Bits: 32},
		"10.0.0.1/8":                  {Addr: ip(10, 0, 0, 1), Bits: 8}, // these aren't Right
		"10.0.0.1/0":                  {Addr: ip(10, 0, 0, 1), Bits: -5},
		"10.0.0.2/0":                  {Addr: ip(10, 0, 0, 2), Bits: math.MinInt},
		"0.0.0.0/33":                  {Bits: 33},
		"0.0.0.1/9223372036854775807": {Addr: 1, Bits: math.MaxInt},
	} {
		if got := Text(p); got != want {
			t.Errorf("Text(%v): %q", p, got)
		}
	}
}

func TestRead(t *testing.T) { // P26.2
	r := rand.New(rand.NewSource(264))
	for range 5000 {
		p, _ := some(r)
		got, err := Read(Text(p))
		if isRight(p) && (got != p || err != api.OK) {
			t.Errorf("Read(%q): %v, %v", Text(p), got, err)
		}
		if err == api.OK && (!isRight(got) || Text(got) != Text(p)) || err != api.OK && (err != api.ErrForm || got != api.Prefix{}) {
			t.Errorf("Read(%q): %v, %v", Text(p), got, err)
		}
	}
	for bits := range 33 {
		if p, err := Read(Text(Of(math.MaxUint32, bits))); p != Of(math.MaxUint32, bits) || err != api.OK {
			t.Errorf("%d bits: %v, %v", bits, p, err)
		}
	}
}

func TestReadOfNone(t *testing.T) { // P26.2
	for _, s := range []string{
		"", "/", "/8", "10.0.0.0", "10.0.0.0/", "10.0.0.0/8/", "10.0.0.0/8/8", "/10.0.0.0/8", "10.0.0.0//8",
		"10.0.0.0/08", "10.0.0.0/+8", "10.0.0.0/-8", "0.0.0.0/-0", "0.0.0.0/00", "10.0.0.0/8 ", " 10.0.0.0/8", "10.0.0.0 /8", "10.0.0.0/ 8", "10.0.0.0/8\n",
		"10.0.0.1/8", "10.0.0.1/31", "0.0.0.1/0", "128.0.0.0/0", "10.0.0.0/6", "0.0.0.0/33", "0.0.0.0/4294967296", "0.0.0.0/1099511627777", "0.0.0.0/9999999999999999999999",
		"10.0.0/8", "10.0.0.0.0/8", "10.0.0.256/32", "10.0.0.01/32", "010.0.0.0/8", "10.0.0.0/x", "10.0.0.0/0x8", "10.0.0.0\\8", "10.0.0.0/٨",
	} {
		if p, err := Read(s); p != (api.Prefix{}) || err != api.ErrForm {
			t.Errorf("Read(%q): %v, %v", s, p, err)
		}
	}
}

func TestCompare(t *testing.T) { // P26.2
	rising := []api.Prefix{
		{Addr: 0, Bits: math.MinInt}, {Addr: 0, Bits: -1}, {Addr: 0, Bits: 0}, {Addr: 0, Bits: 1}, {Addr: 0, Bits: 33}, {Addr: 0, Bits: math.MaxInt},
		{Addr: 1, Bits: math.MinInt}, {Addr: 1, Bits: 0}, {Addr: ip(10, 0, 0, 0), Bits: 8}, {Addr: ip(10, 0, 0, 0), Bits: 9}, {Addr: ip(10, 0, 0, 1), Bits: 8},
		{Addr: 1<<31 - 1, Bits: 32}, {Addr: 1 << 31, Bits: 1}, {Addr: math.MaxUint32, Bits: 0}, {Addr: math.MaxUint32, Bits: 32},
	}
	for i, a := range rising {
		for j, b := range rising {
			want := 0
			if i < j {
				want = -1
			} else if i > j {
				want = 1
			}
			if got := Compare(a, b); got != want {
				t.Errorf("Compare(%v, %v): %d", a, b, got)
			}
		}
	}
}

func TestCoverExample(t *testing.T) { // P26.3: the chapter's
	same(t, "the example", Cover(ip(10, 0, 0, 1), ip(10, 0, 0, 4)), "10.0.0.1/32", "10.0.0.2/31", "10.0.0.4/32")
}

func TestCover(t *testing.T) { // P26.3: by hand
	const end = math.MaxUint32
	same(t, "all", Cover(0, end), "0.0.0.0/0")
	same(t, "the first one", Cover(0, 0), "0.0.0.0/32")
	same(t, "the last one", Cover(end, end), "255.255.255.255/32")
	same(t, "the first half", Cover(0, 1<<31-1), "0.0.0.0/1")
	same(t, "the last half", Cover(1<<31, end), "128.0.0.0/1")
	same(t, "one", Cover(ip(10, 0, 0, 7), ip(10, 0, 0, 7)), "10.0.0.7/32")
	same(t, "a net", Cover(ip(10, 0, 0, 0), ip(10, 255, 255, 255)), "10.0.0.0/8")
	same(t, "none ahead", Cover(1, 0))
	same(t, "none ahead", Cover(end, 0))
	same(t, "none ahead", Cover(end, end-1))
	same(t, "from the middle", Cover(1<<31-1, 1<<31), "127.255.255.255/32", "128.0.0.0/32")
	same(t, "the last three", Cover(end-2, end), "255.255.255.253/32", "255.255.255.254/31")
	long := Cover(1, end-1)
	if len(long) != 62 || Text(long[0]) != "0.0.0.1/32" || Text(long[30]) != "64.0.0.0/2" || Text(long[31]) != "128.0.0.0/2" || Text(long[61]) != "255.255.255.254/32" {
		t.Errorf("all but two: %v", long)
	}
}

// least: the fewest prefixes of the span of 2^free addresses from one on that have just its addresses of a set, from the whole to its halves.
func least(base uint64, free int, has func(uint64) bool) []api.Prefix {
	full := true
	for i := uint64(0); i < 1<<free; i++ {
		full = full && has(base+i)
	}
	if full {
		return []api.Prefix{{Addr: api.Addr(base), Bits: 32 - free}}
	}
	if free == 0 {
		return nil
	}
	half := uint64(1) << (free - 1)
	return append(least(base, free-1, has), least(base+half, free-1, has)...)
}

// bases are where spans of 64 addresses begin: ahead of the first one and behind the last one there is nothing.
var bases = []uint64{0, uint64(ip(10, 0, 0, 64)), 1<<31 - 64, 1 << 31, 1<<32 - 64}

func TestCoverIsTheFewest(t *testing.T) { // P26.3: each span within 64 addresses
	for _, base := range bases {
		for from := base; from < base+64; from++ {
			for to := base; to < base+64; to++ {
				want := least(base, 6, func(a uint64) bool { return from <= a && a <= to })
				if got := Cover(api.Addr(from), api.Addr(to)); !slices.Equal(got, want) {
					t.Fatalf("Cover(%d, %d): %v, not %v", from, to, got, want)
				}
			}
		}
	}
}

func TestCoverOfAny(t *testing.T) { // P26.3: one behind the other, and no two could be one
	r := rand.New(rand.NewSource(265))
	for range 5000 {
		from, to := api.Addr(r.Uint32()>>r.Intn(32)), api.Addr(r.Uint32())
		if from > to {
			from, to = to, from
		}
		at := uint64(from)
		got := Cover(from, to)
		for i, p := range got {
			if uint64(p.Addr) != at || !isRight(p) {
				t.Fatalf("Cover(%d, %d): %v", from, to, got)
			}
			at += 1 << (32 - p.Bits)
			if i > 0 && p.Bits == got[i-1].Bits && Of(p.Addr, p.Bits-1) == Of(got[i-1].Addr, p.Bits-1) {
				t.Fatalf("Cover(%d, %d): two halves: %v", from, to, got)
			}
		}
		if at != uint64(to)+1 {
			t.Fatalf("Cover(%d, %d): up to %d", from, to, at)
		}
	}
}

func TestMerge(t *testing.T) { // P26.3: by hand
	for _, c := range []struct {
		how     string
		l, want []string
	}{
		{"none", nil, nil},
		{"one", []string{"10.0.0.0/8"}, []string{"10.0.0.0/8"}},
		{"one twice", []string{"10.0.0.0/8", "10.0.0.0/8"}, []string{"10.0.0.0/8"}},
		{"two halves", []string{"10.128.0.0/9", "10.0.0.0/9"}, []string{"10.0.0.0/8"}},
		{"side by side, but no halves of one", []string{"10.0.0.1/32", "10.0.0.2/32"}, []string{"10.0.0.1/32", "10.0.0.2/32"}},
		{"apart", []string{"11.0.0.0/8", "9.0.0.0/8"}, []string{"9.0.0.0/8", "11.0.0.0/8"}},
		{"one within another one", []string{"10.1.2.3/32", "10.0.0.0/8", "10.1.0.0/16"}, []string{"10.0.0.0/8"}},
		{"one within, and one behind", []string{"10.0.0.0/8", "10.0.0.0/32", "11.0.0.0/8"}, []string{"10.0.0.0/7"}},
		{"four of a quarter", []string{"10.0.0.3/32", "10.0.0.1/32", "10.0.0.0/32", "10.0.0.2/32"}, []string{"10.0.0.0/30"}},
		{"halves of halves", []string{"0.0.0.0/1", "128.0.0.0/2", "192.0.0.0/3", "224.0.0.0/3"}, []string{"0.0.0.0/0"}},
		{"all", []string{"0.0.0.0/0", "255.255.255.255/32"}, []string{"0.0.0.0/0"}},
		{"the ends", []string{"255.255.255.255/32", "0.0.0.0/32"}, []string{"0.0.0.0/32", "255.255.255.255/32"}},
		{"the end", []string{"255.255.255.254/32", "255.255.255.255/32"}, []string{"255.255.255.254/31"}},
	} {
		same(t, c.how, Merge(read(t, c.l...)...), c.want...)
	}
}

func TestMergeOfWrongOnes(t *testing.T) { // P26.3: they have no addresses
	wrong := []api.Prefix{{Addr: 1, Bits: 0}, {Addr: ip(10, 0, 0, 1), Bits: 8}, {Bits: -1}, {Bits: 33}, {Bits: math.MaxInt}, {Bits: math.MinInt}, {Addr: math.MaxUint32, Bits: 31}}
	same(t, "alone", Merge(wrong...))
	same(t, "among others", Merge(append(slices.Clone(wrong), read(t, "10.0.0.0/9", "10.128.0.0/9")...)...), "10.0.0.0/8")
}

func TestMergeIsTheFewest(t *testing.T) { // P26.3: of prefixes within 64 addresses, some of them not Right
	r := rand.New(rand.NewSource(266))
	for range 3000 {
		base := bases[r.Intn(len(bases))]
		var l []api.Prefix
		for range r.Intn(30) {
			p := api.Prefix{Addr: api.Addr(base + uint64(r.Intn(64))), Bits: 26 + r.Intn(8)}
			if r.Intn(4) > 0 {
				p = Of(p.Addr, max(p.Bits, 28+r.Intn(5)))
			}
			l = append(l, p)
		}
		before := slices.Clone(l)
		want := least(base, 6, func(a uint64) bool {
			return slices.ContainsFunc(l, func(p api.Prefix) bool {
				return isRight(p) && firsts(p.Addr, p.Bits) == firsts(api.Addr(a), p.Bits)
			})
		})
		if got := Merge(l...); !slices.Equal(got, want) {
			t.Fatalf("Merge(%v): %v, not %v", l, got, want)
		}
		if !slices.Equal(l, before) {
			t.Fatal("what is handed in is changed") // rule 5
		}
	}
}

func TestNewMemory(t *testing.T) { // rule 5
	l := read(t, "10.0.0.0/8", "12.0.0.0/8")
	Merge(l...)[0] = api.Prefix{}
	Cover(1, 9)[0] = api.Prefix{}
	same(t, "what was handed in", l, "10.0.0.0/8", "12.0.0.0/8")
	same(t, "again", Merge(l...), "10.0.0.0/8", "12.0.0.0/8")
}

func TestMergeOfMany(t *testing.T) { // P1: it ends
	var l []api.Prefix
	for n := range 100000 {
		l = append(l, Of(api.Addr(99999-n)*2, 32))
	}
	if got := Merge(l...); len(got) != 100000 || got[1].Addr != 2 {
		t.Error(len(got))
	}
	for n := range 100000 {
		l = append(l, Of(api.Addr(n)*2+1, 32))
	}
	if got := Merge(l...); !slices.Equal(got, Cover(0, 199999)) {
		t.Error(len(got))
	}
}
