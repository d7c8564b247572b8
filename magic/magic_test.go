package magic

import (
	"math"
	"math/rand"
	"testing"

	"catwalk/api"
)

// expect: Next answers these, one behind the other.
func expect(t *testing.T, when string, d *Draws, want ...uint32) {
	t.Helper()
	for i, n := range want {
		if got := d.Next(); got != n {
			t.Errorf("%s: number %d is %#x, not %#x", when, i, got, n)
		}
	}
}

// add: all of these wait then.
func add(t *testing.T, d *Draws, l ...uint32) {
	t.Helper()
	for _, n := range l {
		if !d.Add(n) {
			t.Errorf("Add(%d): false", n)
		}
	}
}

// plain: the number of the k-th call by the chapter's words, in numbers of 64 bits that are cut.
func plain(k uint64) uint32 {
	const round = 1 << 32
	x := k % round * 0x9e3779b1 % round
	x ^= x / 32768
	x = x * 0x85ebca6b % round
	x ^= x / 8192
	return uint32(x)
}

func TestNextOfNone(t *testing.T) { // P22.1: worked out apart
	var d Draws
	expect(t, "none was drawn", &d, 0xf281be04, 0xffc9e0a5, 0xcf111d0e, 0x858c2455)
	if d.Left() != 0 {
		t.Error("Left", d.Left())
	}
	for k := uint64(5); k < 5000; k++ {
		expect(t, "by the words", &d, plain(k))
	}
}

func TestAddAndNext(t *testing.T) { // P22.1
	var d Draws
	add(t, &d, 5)
	if d.Left() != 1 {
		t.Error("Left", d.Left())
	}
	expect(t, "the chapter's example", &d, 5)
	add(t, &d, 7, 0, math.MaxUint32, 7)
	expect(t, "in their order, 0 too", &d, 7, 0)
	if d.Left() != 2 {
		t.Error("Left", d.Left())
	}
	expect(t, "the last two", &d, math.MaxUint32, 7)
	if d.Left() != 0 {
		t.Error("Left", d.Left())
	}
}

func TestCallsThatHadOneCount(t *testing.T) { // P22.1
	var d Draws
	add(t, &d, 5, 6)
	expect(t, "two, then the third call", &d, 5, 6, 0xcf111d0e)
	add(t, &d, 8)
	expect(t, "one, then the fifth", &d, 8, plain(5))
}

func TestAddAtTheLimit(t *testing.T) { // P22.1, rule 4
	var d Draws
	for n := range uint32(64) {
		add(t, &d, n+100)
	}
	if d.Left() != 64 || api.MaxDraws != 64 {
		t.Error("Left", d.Left())
	}
	for range 3 {
		if d.Add(1) || d.Left() != 64 {
			t.Error("one past the limit")
		}
	}
	expect(t, "the first", &d, 100)
	add(t, &d, 999)
	if d.Add(1) {
		t.Error("full again")
	}
	for n := range uint32(63) {
		expect(t, "the others", &d, n+101)
	}
	expect(t, "the last, and what comes behind", &d, 999, 0xcadd76b1)
}

func TestCallsGoRound(t *testing.T) { // P22.1: modulo 2^32
	d := Draws{calls: math.MaxUint32 - 1}
	expect(t, "at the end", &d, 0x5ea2aac8, 0, 0xf281be04)
	d = Draws{calls: math.MaxUint32}
	if n := d.Some(); n != 0xf281be04 {
		t.Errorf("Some of the call that comes to 0: %#x", n)
	}
}

func TestSome(t *testing.T) { // P22.1
	for _, c := range []struct {
		drawn      []uint32
		want       uint32
		left       int
		then       uint32 // what Next is once none waits
		how        string
		stillDrawn []uint32
	}{
		{nil, 0xf281be04, 0, plain(2), "none was drawn", nil},
		{[]uint32{9}, 9, 0, plain(2), "one", nil},
		{[]uint32{9, 8}, 9, 1, plain(3), "the second one stays", []uint32{8}},
		{[]uint32{0, 8}, 8, 0, plain(3), "the second one", nil},
		{[]uint32{0}, plain(2), 0, plain(3), "a 0, and none", nil},
		{[]uint32{0, 0}, 1, 0, plain(3), "two of 0", nil},
		{[]uint32{0, 0, 8}, 1, 1, plain(4), "the third one isn't tried", []uint32{8}},
		{[]uint32{0, 0, 0}, 1, 1, plain(4), "three of 0", []uint32{0}},
		{[]uint32{1}, 1, 0, plain(2), "1", nil},
	} {
		var d Draws
		add(t, &d, c.drawn...)
		if got := d.Some(); got != c.want {
			t.Errorf("%s: %#x, not %#x", c.how, got, c.want)
		}
		if d.Left() != c.left {
			t.Errorf("%s: %d are left", c.how, d.Left())
		}
		expect(t, c.how, &d, c.stillDrawn...)
		expect(t, c.how, &d, c.then)
	}
}

func TestAgainstARow(t *testing.T) { // P22.1, P2
	r := rand.New(rand.NewSource(221))
	for range 30 {
		var d, other Draws
		var row []uint32
		calls := uint64(0)
		for range 2000 {
			other.Next() // touches no other one
			if r.Intn(2) == 0 || len(row) > 60 && r.Intn(3) > 0 {
				n := r.Uint32()
				if d.Add(n) != (len(row) < 64) {
					t.Fatal("Add", len(row))
				}
				if len(row) < 64 {
					row = append(row, n)
				}
			} else {
				calls++
				want := plain(calls)
				if len(row) > 0 {
					want, row = row[0], row[1:]
				}
				expect(t, "by chance", &d, want)
			}
			if d.Left() != len(row) {
				t.Fatal("Left", d.Left())
			}
		}
	}
}

func TestSee(t *testing.T) { // P22.2
	var g Guard
	for _, c := range []struct {
		own, n uint32
		want   bool
	}{
		{5, 5, true},
		{5, 6, false},
		{6, 5, false},
		{0, 0, false},
		{0, 5, false},
		{5, 0, false},
		{1, 1, true},
		{math.MaxUint32, math.MaxUint32, true},
		{math.MaxUint32, math.MaxUint32 - 1, false},
		{1 << 31, 0, false},
	} {
		for range 3 {
			if g.See(c.own, c.n) != c.want {
				t.Errorf("See(%d, %d): %v", c.own, c.n, !c.want)
			}
		}
	}
}

func TestLoop(t *testing.T) { // P22.2
	if Loops != 4 {
		t.Error("Loops", Loops)
	}
	others := [][2]uint32{{5, 6}, {0, 0}, {5, 0}, {0, 5}}
	for _, other := range others {
		var g Guard
		if g.Loop() {
			t.Error("at first")
		}
		for round := range 3 {
			for n := 1; n <= 9; n++ {
				g.See(uint32(n), uint32(n)) // the own one may be another each time
				if g.Loop() != (n >= 4) {
					t.Errorf("round %d: %d came back: %v", round, n, g.Loop())
				}
			}
			g.See(other[0], other[1])
			if g.Loop() {
				t.Error("another one came", other)
			}
		}
	}
}

func TestLoopIsOneBehindTheOther(t *testing.T) { // P22.2
	var g Guard
	for n := range 40 {
		if n%4 == 3 {
			g.See(5, 6)
		} else {
			g.See(5, 5)
		}
		if g.Loop() {
			t.Error("three, and another one:", n)
		}
	}
	for range 1000 {
		g.See(5, 5)
	}
	if !g.Loop() || !g.Loop() {
		t.Error("a thousand")
	}
	g.See(5, 6)
	for range 3 {
		g.See(5, 5)
	}
	if g.Loop() {
		t.Error("three behind a thousand and another one")
	}
}
