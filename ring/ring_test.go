package ring

import (
	"math"
	"math/rand"
	"slices"
	"testing"
)

// of is a row of at most so many, with some in it.
func of[T any](t *testing.T, most int, l ...T) *Ring[T] {
	t.Helper()
	r := New[T](most)
	for _, x := range l {
		if !r.Push(x) {
			t.Fatalf("no room for %v of %v", x, l)
		}
	}
	return r
}

// expect holds a row of at most so many against what should be in it, by every call that only tells.
func expect[T comparable](t *testing.T, when string, r *Ring[T], most int, want ...T) {
	t.Helper()
	if r.Len() != len(want) || r.Room() != most-len(want) {
		t.Fatalf("%s: %d, room for %d; not %d, %d", when, r.Len(), r.Room(), len(want), most-len(want))
	}
	if got := slices.Collect(r.All()); !slices.Equal(got, want) {
		t.Fatalf("%s: %v, not %v", when, got, want)
	}
	for i, x := range want {
		if got, ok := r.Get(i); got != x || !ok {
			t.Fatalf("%s: at %d %v, %v; not %v", when, i, got, ok, x)
		}
	}
	var none T
	for _, i := range []int{-1, len(want), len(want) + 1, most + 1, math.MinInt, math.MaxInt} {
		if got, ok := r.Get(i); got != none || ok {
			t.Fatalf("%s: at %d, where none is: %v, %v", when, i, got, ok)
		}
	}
}

func TestExample(t *testing.T) { // P7.1
	r := New[int](2)
	if !r.Push(1) || !r.Push(2) || r.Push(3) {
		t.Fatal("Push")
	}
	expect(t, "full", r, 2, 1, 2)
	if x, ok := r.Pop(); x != 1 || !ok {
		t.Fatal("Pop", x, ok)
	}
	expect(t, "one left", r, 2, 2)
	if !r.Push(4) || r.Push(5) {
		t.Fatal("Push behind a Pop")
	}
	expect(t, "full again", r, 2, 2, 4)
}

func TestHowManyMayBe(t *testing.T) { // P7.1
	for _, c := range []struct{ most, want int }{
		{0, 0},
		{-1, 0},
		{math.MinInt, 0},
		{1, 1},
		{7, 7},
		{4095, 4095},
		{4096, 4096},
		{4097, 4096},
		{1 << 40, 4096},
		{math.MaxInt, 4096},
	} {
		r := New[int](c.most)
		expect(t, "new", r, c.want)
		var l []int
		for r.Push(len(l)) && len(l) <= 5000 {
			l = append(l, len(l))
		}
		if len(l) != c.want {
			t.Fatalf("New(%d) has room for %d, not %d", c.most, len(l), c.want)
		}
		expect(t, "full", r, c.want, l...)
	}
}

func TestPushOfOneTooMany(t *testing.T) { // P7.1, rule 4
	r := of(t, 3, "a", "b", "c")
	for range 5 {
		if r.Push("d") {
			t.Fatal("Push into a full one")
		}
		expect(t, "full", r, 3, "a", "b", "c")
	}
}

func TestPop(t *testing.T) { // P7.1
	r := of(t, 3, 7, 8, 9)
	for i, want := range []int{7, 8, 9} {
		if x, ok := r.Pop(); x != want || !ok {
			t.Fatal(x, ok)
		}
		expect(t, "behind a Pop", r, 3, []int{7, 8, 9}[i+1:]...)
	}
	for range 3 {
		if x, ok := r.Pop(); x != 0 || ok {
			t.Fatal("Pop of none", x, ok)
		}
		expect(t, "none left", r, 3)
	}
	r.Push(5)
	expect(t, "one more", r, 3, 5)
}

func TestRowsOfNone(t *testing.T) { // P7.1
	r := New[int](-5)
	if r.Push(1) {
		t.Fatal("Push")
	}
	if x, ok := r.Pop(); x != 0 || ok {
		t.Fatal("Pop", x, ok)
	}
	r.Clear()
	expect(t, "none fits", r, 0)
}

func TestNoneIsTheZeroValue(t *testing.T) { // P7.1, rule 3
	type pair struct {
		n int
		s string
	}
	r := of(t, 2, pair{1, "x"})
	r.Pop()
	if x, ok := r.Pop(); x != (pair{}) || ok {
		t.Fatal("Pop", x, ok)
	}
	if x, ok := r.Get(0); x != (pair{}) || ok {
		t.Fatal("Get", x, ok)
	}
	p := New[*int](1)
	if x, ok := p.Get(0); x != nil || ok {
		t.Fatal("Get of a pointer", x, ok)
	}
	p.Push(nil)
	if x, ok := p.Get(0); x != nil || !ok {
		t.Fatal("Get of a nil that is there", x, ok)
	}
}

func TestRowsOfLists(t *testing.T) { // P7.1: what is in a row needn't be comparable
	r := of(t, 2, []byte{1}, nil)
	if x, ok := r.Pop(); len(x) != 1 || x[0] != 1 || !ok {
		t.Fatal(x, ok)
	}
	if x, ok := r.Pop(); x != nil || !ok {
		t.Fatal(x, ok)
	}
	if x, ok := r.Pop(); x != nil || ok {
		t.Fatal(x, ok)
	}
}

func TestClear(t *testing.T) { // P7.1
	r := of(t, 4, 1, 2, 3)
	r.Clear()
	expect(t, "cleared", r, 4)
	if x, ok := r.Pop(); x != 0 || ok {
		t.Fatal("Pop", x, ok)
	}
	for i := range 4 {
		if !r.Push(i) {
			t.Fatal("no room", i)
		}
	}
	expect(t, "full again", r, 4, 0, 1, 2, 3)
	r.Clear()
	r.Clear()
	expect(t, "cleared again", r, 4)
}

func TestAllMayBeLeft(t *testing.T) { // rule 8
	r := of(t, 5, 1, 2, 3, 4)
	all := r.All()
	for stop := 1; stop <= 4; stop++ {
		var got []int
		for x := range all {
			got = append(got, x)
			if x == stop {
				break
			}
		}
		if !slices.Equal(got, []int{1, 2, 3, 4}[:stop]) {
			t.Errorf("left at %d: %v", stop, got)
		}
	}
	expect(t, "gone through", r, 5, 1, 2, 3, 4)
}

func TestAllGoesThroughWhatIsThereThen(t *testing.T) { // rule 8
	r := New[int](3)
	all := r.All()
	if all == nil {
		t.Fatal("nil")
	}
	check := func(want ...int) {
		t.Helper()
		for range 2 {
			if got := slices.Collect(all); !slices.Equal(got, want) {
				t.Fatalf("%v, not %v", got, want)
			}
		}
	}
	check()
	r.Push(1)
	r.Push(2)
	check(1, 2)
	r.Pop()
	r.Push(3)
	r.Push(4)
	check(2, 3, 4)
	r.Clear()
	check()
	r.Push(5)
	check(5)
}

func TestAllWhileTheRowChanges(t *testing.T) { // P1, rule 8
	for name, change := range map[string]func(*Ring[int]){
		"Pop":          func(r *Ring[int]) { r.Pop() },
		"Pop of two":   func(r *Ring[int]) { r.Pop(); r.Pop() },
		"Push":         func(r *Ring[int]) { r.Push(9) },
		"Pop and Push": func(r *Ring[int]) { r.Pop(); r.Push(9) },
		"Clear":        func(r *Ring[int]) { r.Clear() },
		"anew":         func(r *Ring[int]) { r.Clear(); r.Push(9); r.Push(9) },
	} {
		r := of(t, 4, 1, 2, 3)
		var got []int
		for x := range r.All() {
			got = append(got, x)
			change(r)
		}
		if !slices.Equal(got, []int{1, 2, 3}) {
			t.Errorf("%s: %v", name, got)
		}
	}
}

func TestRowsAreApart(t *testing.T) { // P2
	a, b := of(t, 3, 1), of(t, 3, 2)
	a.Push(3)
	b.Pop()
	expect(t, "one", a, 3, 1, 3)
	expect(t, "the other", b, 3)
}

// A row of any length does what a plain list does, whatever the calls of it.
func TestRowsAsLists(t *testing.T) { // P7.1
	draw := rand.New(rand.NewSource(7))
	for _, most := range []int{0, 1, 2, 3, 5, 16, 40} {
		r := New[int](most)
		var l []int
		for step := range 4000 {
			switch kind := draw.Intn(100); {
			case kind == 0:
				r.Clear()
				l = nil
			case kind < 35+30*(step/200%2): // now it grows, now it shrinks
				if r.Push(step) != (len(l) < most) {
					t.Fatalf("of %d: Push with %d", most, len(l))
				}
				l = append(l, step)[:min(len(l)+1, most)]
			default:
				x, ok := r.Pop()
				if ok != (len(l) > 0) || ok && x != l[0] || !ok && x != 0 {
					t.Fatalf("of %d: Pop of %v: %d, %v", most, l, x, ok)
				}
				l = l[min(1, len(l)):]
			}
			expect(t, "a list", r, most, l...)
		}
	}
}

// What came and went must leave nothing behind: neither room nor itself.
func TestRowsKeepWhatIsInThemAlone(t *testing.T) {
	r := of(t, 4, new(int), new(int))
	for range 100000 {
		r.Push(new(int))
		was := r.row
		r.Pop()
		if was[0] != nil {
			t.Fatal("what went is held on to")
		}
	}
	if cap(r.row) > 64 {
		t.Fatal("room for", cap(r.row))
	}
}
