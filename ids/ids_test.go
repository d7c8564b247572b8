package ids

import (
	"math"
	"math/rand"
	"slices"
	"testing"
)

const last = math.MaxUint16

// of is a set of which some are given out.
func of(t *testing.T, l ...uint16) *Set {
	t.Helper()
	s := &Set{}
	for _, id := range l {
		if !s.Take(id) {
			t.Fatalf("Take(%d) of %v", id, l)
		}
	}
	return s
}

// full is a set of which all are given out but some.
func full(t *testing.T, but ...uint16) *Set {
	t.Helper()
	s := &Set{}
	for id := 1; id <= last; id++ {
		if !s.Take(uint16(id)) {
			t.Fatal("Take", id)
		}
	}
	for _, id := range but {
		if !s.Give(id) {
			t.Fatal("Give", id)
		}
	}
	return s
}

// expect holds a set against those that should be given out, rising.
func expect(t *testing.T, when string, s *Set, want ...uint16) {
	t.Helper()
	if s.Len() != len(want) {
		t.Fatalf("%s: %d, not %d", when, s.Len(), len(want))
	}
	if got := slices.Collect(s.All()); !slices.Equal(got, want) {
		t.Fatalf("%s: %v, not %v", when, got, want)
	}
	for i := range 1 << 16 {
		_, has := slices.BinarySearch(want, uint16(i))
		if s.Has(uint16(i)) != has {
			t.Fatalf("%s: Has(%d) is %v", when, i, !has)
		}
	}
}

// edges are the ends, and numbers about powers of 2, rising.
func edges() []uint16 {
	l := []uint16{1, last - 1, last}
	for i := range 16 {
		l = append(l, 1<<i-1, 1<<i, 1<<i+1)
	}
	slices.Sort(l)
	return slices.Compact(l)[1:] // but 0
}

func TestExample(t *testing.T) { // P8.1
	s := &Set{}
	if !s.Take(1) {
		t.Fatal("Take")
	}
	if id, ok := s.Fresh(1); id != 2 || !ok {
		t.Fatal("Fresh", id, ok)
	}
	expect(t, "both", s, 1, 2)
}

func TestOfTheZeroSetNoneIs(t *testing.T) { // P8.1
	expect(t, "zero", &Set{})
	var s Set
	if s.Has(0) || s.Has(1) || s.Give(0) || s.Give(1) || s.Give(last) || s.Len() != 0 {
		t.Fatal("something is given out")
	}
}

func TestTakeAndGiveEach(t *testing.T) { // P8.1
	s := &Set{}
	l := edges()
	for i, id := range l {
		if s.Has(id) || s.Give(id) || !s.Take(id) || !s.Has(id) || s.Take(id) {
			t.Fatal("take", id)
		}
		expect(t, "taken", s, l[:i+1]...)
	}
	for i, id := range l {
		if !s.Give(id) || s.Has(id) || s.Give(id) {
			t.Fatal("give", id)
		}
		expect(t, "given back", s, l[i+1:]...)
	}
	if !s.Take(7) {
		t.Fatal("take again")
	}
	expect(t, "again", s, 7)
}

func TestTakeThatChangesNothing(t *testing.T) { // P8.1
	s := of(t, 5, 9)
	for _, id := range []uint16{0, 5, 9} {
		if s.Take(id) {
			t.Fatal("Take", id)
		}
		expect(t, "the same", s, 5, 9)
	}
}

func TestGiveThatChangesNothing(t *testing.T) { // P8.1
	s := of(t, 5, 9)
	for _, id := range []uint16{0, 1, 4, 6, 64 + 5, 8, last} {
		if s.Give(id) {
			t.Fatal("Give", id)
		}
		expect(t, "the same", s, 5, 9)
	}
}

func TestNoughtIsNeverGivenOut(t *testing.T) { // P8.1
	s := full(t)
	if s.Take(0) || s.Has(0) || s.Give(0) || s.Len() != last {
		t.Fatal("0 of a full set")
	}
	if id, ok := s.Fresh(0); id != 0 || ok {
		t.Fatal("Fresh", id, ok)
	}
}

func TestFresh(t *testing.T) { // P8.1
	for name, c := range map[string]struct {
		has        []uint16
		from, want uint16
	}{
		"from 0":                     {nil, 0, 1},
		"from 1":                     {nil, 1, 1},
		"from any":                   {nil, 777, 777},
		"from the last":              {nil, last, last},
		"from 0 with 1 taken":        {[]uint16{1}, 0, 2},
		"from one that is taken":     {[]uint16{5, 6, 7}, 5, 8},
		"one ahead stays":            {[]uint16{5}, 5, 6},
		"a gap":                      {[]uint16{5, 7}, 5, 6},
		"not from the gap's front":   {[]uint16{3, 9}, 6, 6},
		"over the end":               {[]uint16{last}, last, 1},
		"over the end to the second": {[]uint16{1, last - 1, last}, last - 1, 2},
		"the last one of all":        {[]uint16{last - 1}, last - 1, last},
		"into the next word":         {[]uint16{62, 63, 64}, 62, 65},
		"the end of a word":          {[]uint16{62}, 62, 63},
		"the front of a word":        {[]uint16{127}, 127, 128},
	} {
		s := of(t, c.has...)
		if id, ok := s.Fresh(c.from); id != c.want || !ok {
			t.Errorf("%s: Fresh(%d) of %v: %d, %v; not %d", name, c.from, c.has, id, ok, c.want)
		}
		all := append(slices.Clone(c.has), c.want)
		slices.Sort(all)
		expect(t, name, s, all...)
	}
}

func TestFreshOfAllButOne(t *testing.T) { // P8.1
	for _, open := range edges() {
		s := full(t, open)
		for _, from := range append(edges(), 0) {
			if id, ok := s.Fresh(from); id != open || !ok {
				t.Fatalf("Fresh(%d): %d, %v; not %d", from, id, ok, open)
			}
			if id, ok := s.Fresh(from); id != 0 || ok {
				t.Fatalf("Fresh(%d) of none: %d, %v", from, id, ok)
			}
			if s.Len() != last || !s.Give(open) {
				t.Fatal("not given out", open)
			}
		}
	}
}

func TestFreshOfAllButTwo(t *testing.T) { // P8.1
	for _, c := range []struct{ one, two, from, want uint16 }{
		{100, 200, 50, 100},
		{100, 200, 100, 100},
		{100, 200, 101, 200},
		{100, 200, 200, 200},
		{100, 200, 201, 100}, // round
		{100, 101, 101, 101},
		{100, 101, 102, 100},
		{1, last, 2, last},
		{1, last, last, last},
		{1, last, 0, 1},
		{1, last, 1, 1},
	} {
		if id, ok := full(t, c.one, c.two).Fresh(c.from); id != c.want || !ok {
			t.Errorf("Fresh(%d) of all but %d, %d: %d, %v", c.from, c.one, c.two, id, ok)
		}
	}
}

func TestFreshGoesThroughAll(t *testing.T) { // P8.1
	s := &Set{}
	for i := range last {
		want := uint16((40000+i-1)%last + 1)
		if id, ok := s.Fresh(40000); id != want || !ok {
			t.Fatalf("%d: %d, %v", want, id, ok)
		}
	}
	if id, ok := s.Fresh(40000); id != 0 || ok || s.Len() != last {
		t.Fatal("one more than all", id, ok)
	}
}

func TestAllOfAFullSet(t *testing.T) { // P8.1
	n := 0
	for id := range full(t).All() {
		n++
		if int(id) != n {
			t.Fatalf("%d, not %d", id, n)
		}
	}
	if n != last {
		t.Fatal(n)
	}
}

func TestAllMayBeLeft(t *testing.T) { // rule 8
	l := edges()
	s := of(t, l...)
	all := s.All()
	for i, stop := range l {
		var got []uint16
		for id := range all {
			got = append(got, id)
			if id == stop {
				break
			}
		}
		if !slices.Equal(got, l[:i+1]) {
			t.Errorf("left at %d: %v", stop, got)
		}
	}
	expect(t, "gone through", s, l...)
}

func TestAllGoesThroughWhatIsThereThen(t *testing.T) { // rule 8
	s := &Set{}
	all := s.All()
	if all == nil {
		t.Fatal("nil")
	}
	check := func(want ...uint16) {
		t.Helper()
		for range 2 {
			if got := slices.Collect(all); !slices.Equal(got, want) {
				t.Fatalf("%v, not %v", got, want)
			}
		}
	}
	check()
	s.Take(300)
	s.Take(2)
	check(2, 300)
	s.Give(2)
	s.Take(last)
	check(300, last)
	s.Give(300)
	s.Give(last)
	check()
}

func TestAllWhileTheSetChanges(t *testing.T) { // P1, rule 8
	for name, change := range map[string]func(*Set, uint16){
		"gives itself":  func(s *Set, id uint16) { s.Give(id) },
		"gives others":  func(s *Set, id uint16) { s.Give(2); s.Give(3); s.Give(70); s.Give(last) },
		"takes behind":  func(s *Set, id uint16) { s.Take(id + 1); s.Take(id + 64) },
		"takes ahead":   func(s *Set, id uint16) { s.Take(id - 1) },
		"goes on round": func(s *Set, id uint16) { s.Give(id); s.Fresh(id + 1) },
	} {
		s := of(t, 2, 3, 70, last)
		var got []uint16
		for id := range s.All() {
			got = append(got, id)
			change(s, id)
		}
		if !slices.Equal(got, []uint16{2, 3, 70, last}) {
			t.Errorf("%s: %v", name, got)
		}
	}
}

func TestSetsAreApart(t *testing.T) { // P2
	a, b := &Set{}, &Set{}
	a.Take(3)
	if id, ok := b.Fresh(3); id != 3 || !ok {
		t.Fatal(id, ok)
	}
	a.Give(3)
	expect(t, "one", a)
	expect(t, "the other", b, 3)
}

// fresh is what Fresh should answer where these are given out, found one by one.
func fresh(has map[uint16]bool, from uint16) (uint16, bool) {
	at := max(int(from), 1)
	for range last {
		if !has[uint16(at)] {
			return uint16(at), true
		}
		at = at%last + 1
	}
	return 0, false
}

// Whatever the calls, a set does what a plain map does.
func TestSetsAsMaps(t *testing.T) { // P8.1
	draw := rand.New(rand.NewSource(8))
	s, has := &Set{}, map[uint16]bool{}
	for step := range 40000 {
		id := uint16(draw.Intn(150) - 75) // about both ends
		switch draw.Intn(4) {
		case 0:
			if s.Take(id) != (id != 0 && !has[id]) {
				t.Fatalf("%d: Take(%d)", step, id)
			}
			has[id] = id != 0
		case 1, 2:
			if s.Give(id) != has[id] {
				t.Fatalf("%d: Give(%d)", step, id)
			}
			has[id] = false
		default:
			want, right := fresh(has, id)
			if got, ok := s.Fresh(id); got != want || ok != right {
				t.Fatalf("%d: Fresh(%d): %d, %v; not %d", step, id, got, ok, want)
			}
			has[want] = true
		}
		if step%1000 == 0 {
			var l []uint16
			for id, ok := range has {
				if ok {
					l = append(l, id)
				}
			}
			slices.Sort(l)
			expect(t, "a map", s, l...)
		}
	}
}
