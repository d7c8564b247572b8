package pool

import (
	"fmt"
	"math"
	"math/rand"
	"slices"
	"strings"
	"testing"

	"catwalk/api"
)

// at: the address n behind 10.0.0.0.
func at(n int) api.Addr { return api.Addr(0x0a000000 + n) }

// static: the address n behind 10.0.0.0 is kept for a name.
func static(name string, n int) api.Static { return api.Static{Name: name, Addr: at(n)} }

// made: the pool of so many addresses from 10.0.0.1 on.
func made(t *testing.T, many int, statics ...api.Static) *Pool {
	t.Helper()
	p, err := New(at(1), many, statics...)
	if p == nil || err != api.OK {
		t.Fatalf("New of %d addresses and %v: %v", many, statics, err)
	}
	return p
}

// lease: a name gets an address.
func lease(t *testing.T, p *Pool, name string, want api.Addr) {
	t.Helper()
	if got, err := p.Lease(name); got != want || err != api.OK {
		t.Errorf("Lease(%q): %x, %v, not %x", name, uint32(got), err, uint32(want))
	}
}

// full: a name gets none.
func full(t *testing.T, p *Pool, name string) {
	t.Helper()
	if got, err := p.Lease(name); got != 0 || err != api.ErrFull {
		t.Errorf("Lease(%q): %x, %v, not ErrFull", name, uint32(got), err)
	}
}

// release: Release answers this.
func release(t *testing.T, p *Pool, a api.Addr, want api.Errno) {
	t.Helper()
	if err := p.Release(a); err != want {
		t.Errorf("Release(%x): %v, not %v", uint32(a), err, want)
	}
}

// has: an address is a name's.
func has(t *testing.T, p *Pool, a api.Addr, name string) {
	t.Helper()
	if got, ok := p.Holder(a); got != name || !ok {
		t.Errorf("Holder(%x): %q, %v, not %q", uint32(a), got, ok, name)
	}
}

// nobody: nobody has an address.
func nobody(t *testing.T, p *Pool, a api.Addr) {
	t.Helper()
	if got, ok := p.Holder(a); got != "" || ok {
		t.Errorf("Holder(%x): %q, %v", uint32(a), got, ok)
	}
}

// is: so many are free, and these are held.
func is(t *testing.T, p *Pool, free int, held ...api.Addr) {
	t.Helper()
	if got := p.Held(); p.Free() != free || !slices.Equal(got, held) {
		t.Errorf("Free %d, Held %x, not %d, %x", p.Free(), got, free, held)
	}
}

func TestExample(t *testing.T) { // P29.2: the chapter's
	p := made(t, 2)
	lease(t, p, "a", at(1))
	lease(t, p, "b", at(2))
	full(t, p, "c")
	is(t, p, 0, at(1), at(2))
}

func TestNewHasNobody(t *testing.T) { // P29.1
	for many := range 65 {
		p := made(t, many)
		is(t, p, many)
		for n := range 70 {
			nobody(t, p, at(n))
			release(t, p, at(n), api.ErrNone)
		}
		for n := range many {
			lease(t, p, "a", at(n+1))
		}
		full(t, p, "a")
	}
	if api.MaxPool != 64 || api.MaxStatics != 8 {
		t.Error("the limits")
	}
}

// statics: so many that are kept, behind the pool's addresses.
func statics(n int) []api.Static {
	var l []api.Static
	for i := range n {
		l = append(l, static(fmt.Sprint("name", i), 1000+i))
	}
	return l
}

func TestNewUpToTheLimit(t *testing.T) { // P29.1
	for n := range 9 {
		p := made(t, 64, statics(n)...)
		is(t, p, 64)
		for i := range n {
			lease(t, p, fmt.Sprint("name", i), at(1000+i))
		}
		lease(t, p, "other", at(1))
	}
}

func TestAddressesOfHosts(t *testing.T) { // P29.1
	for _, c := range []struct {
		first api.Addr
		many  int
		want  api.Errno
	}{
		{0, 0, api.OK}, {0x7f000001, 0, api.OK}, {0xe0000000, 0, api.OK}, {math.MaxUint32, 0, api.OK}, // none of them is one of the pool's
		{0, 1, api.ErrArg}, {1, 1, api.ErrArg}, {0x00ffffff, 1, api.ErrArg}, {0x00ffffff, 2, api.ErrArg},
		{0x01000000, 1, api.OK}, {0x01000000, 64, api.OK},
		{0x7effffff, 1, api.OK}, {0x7effffff, 2, api.ErrArg}, {0x7effffc0, 64, api.OK}, {0x7effffc1, 64, api.ErrArg}, {0x7effffc1, 63, api.OK},
		{0x7f000000, 1, api.ErrArg}, {0x7fffffff, 1, api.ErrArg}, {0x7fffffff, 2, api.ErrArg},
		{0x80000000, 64, api.OK},
		{0xdfffffff, 1, api.OK}, {0xdfffffff, 2, api.ErrArg}, {0xdfffffc0, 64, api.OK}, {0xdfffffc1, 64, api.ErrArg},
		{0xe0000000, 1, api.ErrArg}, {0xf0000000, 1, api.ErrArg}, {math.MaxUint32, 1, api.ErrArg}, {math.MaxUint32, 2, api.ErrArg}, {math.MaxUint32 - 10, 64, api.ErrArg},
		{at(1), -1, api.ErrArg}, {at(1), math.MinInt, api.ErrArg}, {at(1), 65, api.ErrArg}, {at(1), math.MaxInt, api.ErrArg}, {at(1), 1 << 32, api.ErrArg}, {at(1), 1<<32 + 1, api.ErrArg},
		{0, -1, api.ErrArg}, {0, 65, api.ErrArg},
		{at(1), 64, api.OK}, {at(0), 1, api.OK}, {at(255), 2, api.OK},
	} {
		p, err := New(c.first, c.many)
		if err != c.want || (p == nil) != (err != api.OK) {
			t.Errorf("New(%x, %d): %v, %v", uint32(c.first), c.many, p, err)
			continue
		}
		if p == nil {
			continue
		}
		is(t, p, c.many)
		for n := range c.many {
			lease(t, p, "a", c.first+api.Addr(n))
		}
		full(t, p, "a")
	}
}

func TestNewOfNone(t *testing.T) { // P29.1
	with := func(l []api.Static, i int, s api.Static) []api.Static {
		l = slices.Clone(l)
		l[i] = s
		return l
	}
	a, b := static("a", 5), static("b", 6)
	for _, c := range []struct {
		why  string
		many int
		l    []api.Static
		want api.Errno
	}{
		{"nine", 3, statics(9), api.ErrSize},
		{"a hundred", 3, statics(100), api.ErrSize},
		{"nine, and one is no host's", 3, with(statics(9), 0, api.Static{Name: "x"}), api.ErrSize},
		{"nine, and one is there twice", 3, with(statics(9), 1, statics(1)[0]), api.ErrSize},
		{"too many addresses, and nine", 65, statics(9), api.ErrArg},
		{"too few addresses, and nine", -1, statics(9), api.ErrArg},
		{"too many addresses, and one twice", 65, []api.Static{a, a}, api.ErrArg},
		{"0.0.0.0", 3, []api.Static{{Name: "a"}}, api.ErrArg},
		{"0.255.255.255", 3, []api.Static{{Name: "a", Addr: 0x00ffffff}}, api.ErrArg},
		{"127.0.0.1", 3, []api.Static{{Name: "a", Addr: 0x7f000001}}, api.ErrArg},
		{"224.0.0.0", 3, []api.Static{{Name: "a", Addr: 0xe0000000}}, api.ErrArg},
		{"255.255.255.255", 3, []api.Static{{Name: "a", Addr: math.MaxUint32}}, api.ErrArg},
		{"the last of eight", 3, with(statics(8), 7, api.Static{Name: "x"}), api.ErrArg},
		{"one twice", 3, []api.Static{a, a}, api.ErrTwice},
		{"an address twice", 3, []api.Static{a, static("b", 5)}, api.ErrTwice},
		{"a name twice", 3, []api.Static{a, static("a", 6)}, api.ErrTwice},
		{"an address of the pool's twice", 3, []api.Static{static("a", 2), static("b", 2)}, api.ErrTwice},
		{"a name twice, of the pool's", 3, []api.Static{static("a", 2), static("a", 3)}, api.ErrTwice},
		{"an empty name twice", 3, []api.Static{static("", 5), static("", 6)}, api.ErrTwice},
		{"an address of an empty name", 3, []api.Static{static("", 5), static("a", 5)}, api.ErrTwice},
		{"an address twice, not at once", 3, []api.Static{a, b, static("c", 5)}, api.ErrTwice},
		{"a name twice, not at once", 3, []api.Static{a, b, static("a", 7)}, api.ErrTwice},
		{"the first and the last of eight", 3, with(statics(8), 7, statics(1)[0]), api.ErrTwice},
		{"no addresses, and one twice", 0, []api.Static{a, a}, api.ErrTwice},
		{"twice, then no host's", 3, []api.Static{a, a, {Name: "c"}}, api.ErrTwice},
		{"no host's, then twice", 3, []api.Static{a, {Name: "c"}, a}, api.ErrArg},
		{"no host's, of a name that was there", 3, []api.Static{a, {Name: "a"}}, api.ErrArg},
	} {
		if p, err := New(at(1), c.many, c.l...); p != nil || err != c.want {
			t.Errorf("%s: %v, %v, not %v", c.why, p, err, c.want)
		}
	}
	if p, err := New(0, 1, statics(9)...); p != nil || err != api.ErrArg {
		t.Error("no host's, and nine", err)
	}
}

func TestNamesAreHeldByteByByte(t *testing.T) { // P29.1, P29.2
	names := []string{"a", "A", "a ", "a\x00", "", "é", "\xff", strings.Repeat("x", 5000)}
	var l []api.Static
	for i, name := range names {
		l = append(l, static(name, 1000-i))
	}
	p := made(t, 1, l...)
	for i, name := range names {
		lease(t, p, name, at(1000-i))
		has(t, p, at(1000-i), name)
	}
	is(t, p, 1, at(993), at(994), at(995), at(996), at(997), at(998), at(999), at(1000))
}

func TestTheLeastIsLeased(t *testing.T) { // P29.2
	p := made(t, 5)
	for n := 1; n <= 5; n++ {
		lease(t, p, fmt.Sprint("n", n), at(n))
	}
	release(t, p, at(4), api.OK)
	release(t, p, at(2), api.OK)
	release(t, p, at(5), api.OK)
	is(t, p, 3, at(1), at(3))
	lease(t, p, "x", at(2))
	release(t, p, at(1), api.OK)
	lease(t, p, "y", at(1))
	lease(t, p, "z", at(4))
	lease(t, p, "x", at(5)) // a name may have more than one
	full(t, p, "x")
	is(t, p, 0, at(1), at(2), at(3), at(4), at(5))
	for n, name := range []string{"y", "x", "n3", "z", "x"} {
		has(t, p, at(n+1), name)
	}
}

func TestWhatIsKept(t *testing.T) { // P29.2: of the pool's, and of others
	p := made(t, 4, static("b", 1), static("c", 3), static("d", 500), api.Static{Name: "e", Addr: 0x01000000})
	is(t, p, 2) // 2 and 4
	lease(t, p, "a", at(2))
	lease(t, p, "b", at(1))
	lease(t, p, "d", at(500))
	lease(t, p, "e", 0x01000000)
	is(t, p, 1, 0x01000000, at(1), at(2), at(500))
	lease(t, p, "b", at(4)) // what is kept for it isn't free: one of the pool's
	full(t, p, "a")
	full(t, p, "b")
	full(t, p, "d")
	is(t, p, 0, 0x01000000, at(1), at(2), at(4), at(500))
	nobody(t, p, at(3)) // kept for c alone
	lease(t, p, "c", at(3))
	full(t, p, "c")
	release(t, p, at(1), api.OK)
	is(t, p, 0, 0x01000000, at(2), at(3), at(4), at(500))
	full(t, p, "a")
	lease(t, p, "b", at(1))
	release(t, p, at(500), api.OK)
	full(t, p, "e")
	lease(t, p, "d", at(500))
	release(t, p, at(4), api.OK)
	is(t, p, 1, 0x01000000, at(1), at(2), at(3), at(500))
}

func TestKeptComesAheadOfTheLeast(t *testing.T) { // P29.2
	p := made(t, 3, static("a", 3), static("b", 2000))
	lease(t, p, "b", at(2000))
	lease(t, p, "a", at(3))
	lease(t, p, "a", at(1))
	lease(t, p, "b", at(2))
	full(t, p, "a")
	release(t, p, at(3), api.OK)
	full(t, p, "b")
	lease(t, p, "a", at(3))
}

func TestAnEmptyName(t *testing.T) { // P29.2: it is one too
	p := made(t, 2, static("", 1))
	is(t, p, 1)
	lease(t, p, "a", at(2))
	full(t, p, "a")
	lease(t, p, "", at(1))
	has(t, p, at(1), "")
	is(t, p, 0, at(1), at(2))
	release(t, p, at(1), api.OK)
	nobody(t, p, at(1))
	p = made(t, 1)
	lease(t, p, "", at(1))
	has(t, p, at(1), "")
	full(t, p, "")
}

func TestRelease(t *testing.T) { // P29.2
	p := made(t, 2, static("s", 9))
	for _, a := range []api.Addr{0, at(0), at(1), at(2), at(3), at(9), at(10), math.MaxUint32} {
		release(t, p, a, api.ErrNone)
		nobody(t, p, a)
	}
	is(t, p, 2)
	lease(t, p, "a", at(1))
	release(t, p, at(2), api.ErrNone)
	has(t, p, at(1), "a")
	release(t, p, at(1), api.OK)
	release(t, p, at(1), api.ErrNone)
	nobody(t, p, at(1))
	is(t, p, 2)
	lease(t, p, "s", at(9))
	release(t, p, at(9), api.OK)
	release(t, p, at(9), api.ErrNone)
	lease(t, p, "b", at(1)) // what is kept is so still
	lease(t, p, "b", at(2))
	full(t, p, "b")
	lease(t, p, "s", at(9))
}

func TestNoAddresses(t *testing.T) { // P29.1, P29.2
	p, err := New(0, 0)
	if err != api.OK {
		t.Fatal(err)
	}
	is(t, p, 0)
	full(t, p, "a")
	full(t, p, "")
	release(t, p, 0, api.ErrNone)
	nobody(t, p, 0)
	p = made(t, 0, static("a", 7))
	is(t, p, 0)
	full(t, p, "b")
	lease(t, p, "a", at(7))
	full(t, p, "a")
	is(t, p, 0, at(7))
}

func TestWhatIsRefusedChangesNothing(t *testing.T) { // rule 4
	p := made(t, 1, static("s", 9))
	lease(t, p, "a", at(1))
	for range 3 {
		full(t, p, "b")
		full(t, p, "a")
		release(t, p, at(2), api.ErrNone)
		release(t, p, at(9), api.ErrNone)
		is(t, p, 0, at(1))
		has(t, p, at(1), "a")
		nobody(t, p, at(9))
		nobody(t, p, at(2))
	}
}

// plain is a pool by the chapter's words.
type plain struct {
	own     []api.Addr
	statics []api.Static
	held    []api.Static // who has what
}

// holder: the place in held of an address; below 0: nobody has it.
func (p *plain) holder(a api.Addr) int {
	return slices.IndexFunc(p.held, func(s api.Static) bool { return s.Addr == a })
}

// open: those of the pool's that nobody has, and that are kept for nobody, rising.
func (p *plain) open() []api.Addr {
	return slices.DeleteFunc(slices.Clone(p.own), func(a api.Addr) bool {
		return p.holder(a) >= 0 || slices.ContainsFunc(p.statics, func(s api.Static) bool { return s.Addr == a })
	})
}

// lease: what Lease is to answer.
func (p *plain) lease(name string) (api.Addr, api.Errno) {
	for _, s := range p.statics {
		if s.Name == name && p.holder(s.Addr) < 0 {
			p.held = append(p.held, s)
			return s.Addr, api.OK
		}
	}
	if l := p.open(); len(l) > 0 {
		p.held = append(p.held, api.Static{Name: name, Addr: l[0]})
		return l[0], api.OK
	}
	return 0, api.ErrFull
}

// release: what Release is to answer.
func (p *plain) release(a api.Addr) api.Errno {
	i := p.holder(a)
	if i < 0 {
		return api.ErrNone
	}
	p.held = slices.Delete(p.held, i, i+1)
	return api.OK
}

// heldNow: what Held is to answer.
func (p *plain) heldNow() []api.Addr {
	var l []api.Addr
	for _, s := range p.held {
		l = append(l, s.Addr)
	}
	slices.Sort(l)
	return l
}

// newPlain: what New is to answer.
func newPlain(first api.Addr, many int, statics []api.Static) (*plain, api.Errno) {
	host := func(a api.Addr) bool { return a>>24 != 0 && a>>24 != 127 && a>>24 < 224 }
	if many < 0 || many > 64 {
		return nil, api.ErrArg
	}
	p := &plain{}
	for i := range many {
		if uint64(first)+uint64(i) > math.MaxUint32 || !host(first+api.Addr(i)) {
			return nil, api.ErrArg
		}
		p.own = append(p.own, first+api.Addr(i))
	}
	if len(statics) > 8 {
		return nil, api.ErrSize
	}
	for _, s := range statics {
		if !host(s.Addr) {
			return nil, api.ErrArg
		}
		for _, other := range p.statics {
			if other.Addr == s.Addr || other.Name == s.Name {
				return nil, api.ErrTwice
			}
		}
		p.statics = append(p.statics, s)
	}
	return p, api.OK
}

func TestNewOfAny(t *testing.T) { // P29.1, P1, P2
	r := rand.New(rand.NewSource(291))
	seen := map[api.Errno]int{}
	for range 30000 {
		first := []api.Addr{at(r.Intn(300)), 0x00ffffff, 0x7effffff - api.Addr(r.Intn(90)), 0xdfffffff - api.Addr(r.Intn(90)), api.Addr(r.Uint32())}[r.Intn(5)]
		many := r.Intn(70) - 2
		l := make([]api.Static, r.Intn(11))
		for i := range l {
			l[i] = api.Static{Name: string(rune('a' + r.Intn(60))), Addr: first + api.Addr(r.Intn(200))}
		}
		was := slices.Clone(l)
		want, err := newPlain(first, many, l)
		p, got := New(first, many, l...)
		if got != err || (p == nil) != (want == nil) || !slices.Equal(l, was) {
			t.Fatalf("New(%x, %d, %v): %v, not %v", uint32(first), many, l, got, err)
		}
		if p != nil {
			is(t, p, len(want.open()))
		}
		seen[err]++
	}
	if len(seen) != 4 || seen[api.OK] < 1000 || seen[api.ErrTwice] < 1000 {
		t.Error(seen)
	}
}

// same: does a pool tell what it is to tell?
func same(t *testing.T, p *Pool, want *plain) {
	t.Helper()
	is(t, p, len(want.open()), want.heldNow()...)
	for _, s := range want.held {
		has(t, p, s.Addr, s.Name)
	}
	for _, s := range want.statics {
		if want.holder(s.Addr) < 0 {
			nobody(t, p, s.Addr)
		}
	}
	for _, a := range want.own {
		if want.holder(a) < 0 {
			nobody(t, p, a)
		}
	}
}

func TestByTheChapter(t *testing.T) { // P29.2, P29.3, P2
	r := rand.New(rand.NewSource(292))
	for range 150 {
		many := []int{0, 3, r.Intn(65), 64}[r.Intn(4)]
		l := make([]api.Static, r.Intn(9))
		for i := range l {
			l[i] = static(fmt.Sprint("n", i), 10*i+r.Intn(10))
		}
		want, _ := newPlain(at(1), many, l)
		p, other := made(t, many, l...), made(t, many, l...)
		for range 300 {
			name := fmt.Sprint("n", r.Intn(14))
			if r.Intn(3) > 0 {
				a, err := want.lease(name)
				got, e := p.Lease(name)
				again, eAgain := other.Lease(name)
				if got != a || e != err || again != a || eAgain != err {
					t.Fatalf("Lease(%q): %x, %v, or %x, %v, not %x, %v", name, uint32(got), e, uint32(again), eAgain, uint32(a), err)
				}
			} else {
				a := at(r.Intn(95))
				err := want.release(a)
				release(t, p, a, err)
				release(t, other, a, err)
			}
			same(t, p, want)
		}
	}
}

func TestNoneIsLeasedTwice(t *testing.T) { // P29.3
	r := rand.New(rand.NewSource(293))
	kept := []api.Static{static("a", 1), static("b", 40), static("c", 64), static("d", 300)}
	p := made(t, 64, kept...)
	held := map[api.Addr]string{}
	for range 20000 {
		name := string(rune('a' + r.Intn(8)))
		if a, err := p.Lease(name); err == api.OK {
			if who, ok := held[a]; ok {
				t.Fatalf("%x is leased to %q, and %q has it", uint32(a), name, who)
			}
			for _, s := range kept {
				if s.Addr == a && s.Name != name {
					t.Fatalf("%x is kept for %q, and %q has it", uint32(a), s.Name, name)
				}
			}
			held[a] = name
		}
		if a := at(r.Intn(320)); r.Intn(2) == 0 && len(held) > 60 {
			_, ok := held[a]
			want := api.OK
			if !ok {
				want = api.ErrNone
			}
			release(t, p, a, want)
			delete(held, a)
		}
		if len(p.Held()) != len(held) {
			t.Fatal(len(p.Held()), len(held))
		}
	}
}

func TestWhatIsHandedInIsntKept(t *testing.T) { // rule 5
	l := []api.Static{static("b", 3), static("a", 2)}
	was := slices.Clone(l)
	p := made(t, 3, l...)
	if !slices.Equal(l, was) {
		t.Fatal("what was handed in is turned", l)
	}
	l[0], l[1] = static("x", 1), static("y", 50)
	lease(t, p, "x", at(1))
	lease(t, p, "a", at(2))
	lease(t, p, "b", at(3))
}

func TestAnswersAreNewMemory(t *testing.T) { // rule 5
	p := made(t, 4)
	for n := range 3 {
		lease(t, p, "a", at(n+1))
	}
	first := p.Held()
	second := p.Held()
	first[0] = 99
	_ = append(first[:1], 98)
	want := []api.Addr{at(1), at(2), at(3)}
	if !slices.Equal(second, want) {
		t.Error("two answers share memory", second)
	}
	is(t, p, 1, want...)
	lease(t, p, "a", at(4))
	is(t, p, 0, at(1), at(2), at(3), at(4))
	if !slices.Equal(second, want) {
		t.Error("an answer was turned", second)
	}
}
