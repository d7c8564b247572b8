package serial

import (
	"math"
	"testing"
)

const (
	half  = 1 << 31
	round = 1 << 32
)

// edges are numbers about those at which something turns.
func edges() []uint32 {
	l := []uint32{0x12345678, 0x9abcdef0}
	for _, at := range []uint32{0, half / 2, half, half + half/2} {
		for d := range uint32(7) {
			l = append(l, at+d-3)
		}
	}
	return l
}

// steps tells by numbers that don't go round how many steps up it is from a to b.
func steps(a, b uint32) int64 {
	n := int64(b) - int64(a)
	if n < 0 {
		n += round
	}
	return n
}

func TestLess(t *testing.T) { // P2.1
	for _, c := range []struct {
		a, b uint32
		want bool
	}{
		{math.MaxUint32, 0, true}, // the chapter's example
		{0, math.MaxUint32, false},
		{5, 5, false},
		{5, 6, true},
		{6, 5, false},
		{0, half - 1, true},
		{0, half, false},
		{half, 0, false},
		{0, half + 1, false},
		{half + 1, 0, true},
		{half - 1, half, true},
	} {
		if got := Less(c.a, c.b); got != c.want {
			t.Errorf("Less(%d, %d): %v", c.a, c.b, got)
		}
	}
}

func TestLessAtTheEdges(t *testing.T) { // P2.1, P2.3
	for _, a := range edges() {
		for _, b := range edges() {
			n := steps(a, b)
			if got := Less(a, b); got != (n >= 1 && n <= half-1) {
				t.Errorf("Less(%d, %d): %v", a, b, got)
			}
			if Less(a, b) && Less(b, a) {
				t.Errorf("Less of %d and %d both ways", a, b)
			}
		}
	}
}

func TestBehindANumber(t *testing.T) { // P2.3
	for _, a := range edges() {
		for _, n := range []int{1, 2, 3, 255, 65536, half / 2, half - 2, half - 1} {
			if !Less(a, Add(a, n)) || Less(Add(a, n), a) {
				t.Errorf("%d steps behind %d", n, a)
			}
		}
		if Less(a, Add(a, half)) || Less(Add(a, half), a) {
			t.Errorf("half a round from %d", a)
		}
	}
}

func TestDistance(t *testing.T) { // P2.1
	for _, c := range []struct {
		a, b uint32
		want int
	}{
		{0, 0, 0},
		{7, 9, 2},
		{1, 0, -1},
		{math.MaxUint32, 0, 1},
		{0, math.MaxUint32, -1},
		{0, half - 1, half - 1},
		{0, half, -half},
		{half, 0, -half},
		{0, half + 1, -half + 1},
		{half + 1, 0, half - 1},
	} {
		if got := Distance(c.a, c.b); got != c.want {
			t.Errorf("Distance(%d, %d): %d, not %d", c.a, c.b, got, c.want)
		}
	}
}

func TestDistanceAtTheEdges(t *testing.T) { // P2.1
	for _, a := range edges() {
		for _, b := range edges() {
			want := steps(a, b)
			if want >= half {
				want -= round
			}
			if got := Distance(a, b); int64(got) != want {
				t.Errorf("Distance(%d, %d): %d, not %d", a, b, got, want)
			}
			if Add(a, Distance(a, b)) != b {
				t.Errorf("Add doesn't go the way from %d to %d", a, b)
			}
		}
	}
}

func TestMax(t *testing.T) { // P2.1
	for _, c := range []struct{ a, b, want uint32 }{
		{1, 2, 2},
		{2, 1, 2},
		{3, 3, 3},
		{math.MaxUint32, 0, 0},
		{0, math.MaxUint32, 0},
		{0, half - 1, half - 1},
		{0, half, 0}, // neither is ahead: the first one
		{half, 0, half},
		{5, half + 5, 5},
		{half + 5, 5, half + 5},
		{0, half + 1, 0},
	} {
		if got := Max(c.a, c.b); got != c.want {
			t.Errorf("Max(%d, %d): %d, not %d", c.a, c.b, got, c.want)
		}
	}
}

func TestBetween(t *testing.T) { // P2.1
	const top = math.MaxUint32
	for _, c := range []struct {
		a, b, c uint32
		want    bool
	}{
		{1, 2, 3, true},
		{1, 1, 3, true},
		{1, 3, 3, true},
		{1, 4, 3, false},
		{1, 0, 3, false},
		{2, 2, 2, true},
		{2, 3, 2, false},
		{2, 1, 2, false},
		{3, 2, 1, false},
		{3, 4, 1, true}, // up from 3, round, to 1
		{3, 0, 1, true},
		{top - 1, top, 1, true},
		{top - 1, 0, 1, true},
		{top - 1, 1, 1, true},
		{top - 1, 2, 1, false},
		{top - 1, top - 2, 1, false},
		{0, half + 7, top, true}, // further than half a round
		{0, top, half, false},
		{1, 0, 0, true},
	} {
		if got := Between(c.a, c.b, c.c); got != c.want {
			t.Errorf("Between(%d, %d, %d): %v", c.a, c.b, c.c, got)
		}
	}
}

func TestBetweenAtTheEdges(t *testing.T) { // P2.1
	for _, a := range edges() {
		for _, b := range edges() {
			for _, c := range edges() {
				if got := Between(a, b, c); got != (steps(a, b) <= steps(a, c)) {
					t.Errorf("Between(%d, %d, %d): %v", a, b, c, got)
				}
			}
		}
	}
}

func TestAdd(t *testing.T) { // P2.1
	for _, c := range []struct {
		a    uint32
		n    int
		want uint32
	}{
		{5, 0, 5},
		{5, 3, 8},
		{5, -3, 2},
		{0, -1, math.MaxUint32},
		{math.MaxUint32, 1, 0},
		{math.MaxUint32, 2, 1},
		{1, -2, math.MaxUint32},
		{9, half, half + 9},
		{9, -half, half + 9},
		{9, round, 9},
		{9, -round, 9},
		{9, 3*round + 4, 13},
		{9, -3*round - 4, 5},
		{9, math.MaxInt, 8},
		{9, math.MinInt, 9},
	} {
		if got := Add(c.a, c.n); got != c.want {
			t.Errorf("Add(%d, %d): %d, not %d", c.a, c.n, got, c.want)
		}
	}
}

// told is a number that comes, and what must be told of it, and be the greatest then.
type told struct {
	n        uint32
	are, top int64
}

func TestWide(t *testing.T) { // P2.2
	for name, l := range map[string][]told{
		"the first one 0":                 {{0, 0, 0}, {1, 1, 1}},
		"the first one at the end":        {{math.MaxUint32, round - 1, round - 1}, {2, round + 2, round + 2}},
		"the first one half a round":      {{half, half, half}},
		"the first one more than half":    {{half + 9, half + 9, half + 9}},
		"back, and the greatest stays":    {{50, 50, 50}, {20, 20, 50}, {50, 50, 50}, {51, 51, 51}},
		"half a round less one on":        {{5, 5, 5}, {half + 4, half + 4, half + 4}},
		"from below 0 on, and back":       {{5, 5, 5}, {half + 6, half + 6, half + 6}, {6, 6, half + 6}},
		"back below 0: a round more":      {{5, 5, 5}, {half + 5, half + 5, half + 5}},
		"one below 0":                     {{0, 0, 0}, {math.MaxUint32, round - 1, round - 1}},
		"back over the end of a round":    {{math.MaxUint32, round - 1, round - 1}, {3, round + 3, round + 3}, {math.MaxUint32 - 1, round - 2, round + 3}},
		"half a round back":               {{math.MaxUint32, round - 1, round - 1}, {half - 1, half - 1, round - 1}},
		"half a round back less one":      {{math.MaxUint32, round - 1, round - 1}, {half, half, round - 1}},
		"one more than half a round back": {{math.MaxUint32, round - 1, round - 1}, {half - 2, round + half - 2, round + half - 2}},
		"half a round on, a round behind": {{math.MaxUint32, round - 1, round - 1}, {0, round, round}, {half, half, round}, {half - 1, round + half - 1, round + half - 1}},
	} {
		w := &Wide{}
		if w.Top() != 0 {
			t.Errorf("%s: Top of nothing is %d", name, w.Top())
		}
		for i, c := range l {
			if got := w.Of(c.n); got != c.are {
				t.Errorf("%s: %d: Of(%d) is %d, not %d", name, i, c.n, got, c.are)
			}
			if w.Top() != c.top {
				t.Errorf("%s: %d: Top is %d, not %d", name, i, w.Top(), c.top)
			}
		}
	}
}

// A number from half a round below the greatest one to half a round less one above it is the only one that may be told.
func TestWideAtTheEdges(t *testing.T) { // P2.2
	for _, a := range edges() {
		for _, b := range edges() {
			w := &Wide{}
			top := max(w.Of(a), w.Of(a+half-1), w.Of(a-2))
			if w.Top() != top {
				t.Fatalf("Top is %d, not %d", w.Top(), top)
			}
			want := int64(b)
			for want < top-half {
				want += round
			}
			if got := w.Of(b); got != want {
				t.Errorf("behind %d, Of(%d) is %d, not %d", top, b, got, want)
			}
			if w.Top() != max(top, want) {
				t.Errorf("behind %d and %d, Top is %d", top, want, w.Top())
			}
		}
	}
}

func TestWideTellsNumbersAsTheyAre(t *testing.T) { // P2.3
	for _, stride := range []int64{1, 1000003, half/2 + 77, half - 1} {
		w := &Wide{}
		top := int64(0)
		for i := range int64(200) {
			n := i * stride
			top = max(top, n)
			if got := w.Of(uint32(n)); got != n {
				t.Fatalf("%d is told as %d", n, got)
			}
			for _, back := range []int64{1, 2, stride, half - 1} {
				late := max(0, top-back)
				if got := w.Of(uint32(late)); got != late {
					t.Fatalf("behind %d, %d is told as %d", top, late, got)
				}
			}
			if w.Top() != top {
				t.Fatalf("Top is %d, not %d", w.Top(), top)
			}
		}
	}
}

func TestWidesAreValues(t *testing.T) { // the document's Ways, P2
	w := Wide{}
	w.Of(math.MaxUint32)
	v := w
	if v.Of(3) != round+3 || w.Top() != round-1 {
		t.Fatal("a copy hangs on what it was copied from")
	}
	if w.Of(3) != round+3 {
		t.Fatal("what was copied goes on otherwise")
	}
}
