package win

import (
	"math"
	"math/rand"
	"testing"

	"catwalk/api"
)

// expect: a window's Size and Most are these.
func expect(t *testing.T, when string, w Window, size, most int) {
	t.Helper()
	if w.Size() != size || w.Most() != most {
		t.Errorf("%s: Size %d, Most %d, not %d, %d", when, w.Size(), w.Most(), size, most)
	}
}

// nearest: a number cut to low to 16.
func nearest(n, low int) int {
	if n < low {
		return low
	}
	if n > 16 {
		return 16
	}
	return n
}

// edges are numbers of every kind.
var edges = []int{math.MinInt, math.MinInt + 1, -1 << 40, -16, -1, 0, 1, 2, 15, 16, 17, 32, 1 << 40, math.MaxInt - 1, math.MaxInt}

func TestNew(t *testing.T) { // P20.1
	halves := []int{1: 1, 2: 1, 3: 2, 4: 2, 5: 3, 6: 3, 7: 4, 8: 4, 9: 5, 10: 5, 11: 6, 12: 6, 13: 7, 14: 7, 15: 8, 16: 8}
	for most := 1; most <= 16; most++ {
		expect(t, "New", New(most), halves[most], most)
	}
	for _, most := range edges {
		expect(t, "of an edge", New(most), halves[nearest(most, 1)], nearest(most, 1))
	}
}

func TestExample(t *testing.T) { // P20.1: the chapter's
	expect(t, "New(8)", New(8), 4, 8)
	expect(t, "Acked(4)", New(8).Acked(4), 5, 8)
	expect(t, "Late behind that", New(8).Acked(4).Late(), 3, 8)
	expect(t, "Late", New(8).Late(), 2, 8)
}

func TestAcked(t *testing.T) { // P20.1: by hand
	w := New(8)
	for n, size := range []int{4, 4, 4, 4, 5, 5, 5, 5, 5, 6, 6, 6, 6, 6, 6, 7, 7} {
		expect(t, "at once", w.Acked(n), size, 8)
		x := w
		for range n {
			x = x.Acked(1)
		}
		expect(t, "one by one", x, size, 8)
	}
	expect(t, "three, and one", w.Acked(3).Acked(1), 5, 8)
	expect(t, "three, none, and one", w.Acked(3).Acked(0).Acked(-5).Acked(1), 5, 8)
	expect(t, "counted anew", w.Acked(4).Acked(4), 5, 8)
	expect(t, "counted anew, and one more", w.Acked(4).Acked(5), 6, 8)
	expect(t, "5, of which one counts for the next", w.Acked(5).Acked(3), 5, 8)
	expect(t, "the same, and one more", w.Acked(5).Acked(4), 6, 8)
}

func TestAckedIsCut(t *testing.T) { // P20.1
	w := New(16)                        // 8
	expect(t, "16", w.Acked(16), 9, 16) // 8, and 8 of 9
	expect(t, "17 are 16", w.Acked(17).Acked(0), 9, 16)
	expect(t, "one more", w.Acked(17).Acked(1), 10, 16)
	expect(t, "16 and 1", w.Acked(16).Acked(1), 10, 16)
	for _, n := range edges {
		if w.Acked(n) != w.Acked(nearest(n, 0)) {
			t.Errorf("Acked(%d)", n)
		}
	}
	for _, n := range []int{math.MinInt, -1, 0} {
		if w.Acked(3).Acked(n) != w.Acked(3) {
			t.Errorf("Acked(%d) counts", n)
		}
	}
}

func TestMost(t *testing.T) { // P20.1: at most Most
	for most := 1; most <= 16; most++ {
		w := New(most)
		for range 20 {
			w = w.Acked(16)
		}
		expect(t, "grown", w, most, most)
		expect(t, "grown, and more", w.Acked(most).Acked(16), most, most)
		expect(t, "grown, then late", w.Acked(most-1).Late(), (most+1)/2, most)
	}
}

func TestLate(t *testing.T) { // P20.1
	w := New(16) // 8
	for _, size := range []int{4, 2, 1, 1, 1} {
		w = w.Late()
		expect(t, "late once more", w, size, 16)
	}
	expect(t, "then acked", w.Acked(1), 2, 16)
	expect(t, "then acked thrice", w.Acked(3), 3, 16)
	for size := 2; size <= 16; size++ { // half, rounded up
		x := New(16).Late().Late().Late()
		for x.Size() < size {
			x = x.Acked(1)
		}
		expect(t, "half", x.Late(), (size+1)/2, 16)
	}
}

func TestLateCountsAnew(t *testing.T) { // P20.1
	w := New(16).Acked(7).Late() // 4
	expect(t, "three", w.Acked(3), 4, 16)
	expect(t, "four", w.Acked(4), 5, 16)
	one := New(2) // 1, of which Late makes 1
	expect(t, "of 1", one.Late(), 1, 2)
	two := New(3).Acked(1).Late() // 1
	expect(t, "of 2", two, 1, 3)
	expect(t, "of 2, then one", two.Acked(1), 2, 3)
	expect(t, "of 2, then two", two.Acked(2), 2, 3)
	expect(t, "of 2, then three", two.Acked(3), 3, 3)
}

func TestValues(t *testing.T) { // P2: a Window isn't turned
	w := New(8).Acked(3)
	w.Acked(9)
	w.Late()
	expect(t, "as it was", w, 4, 8)
	expect(t, "and one more", w.Acked(1), 5, 8)
	if w.Acked(7) != w.Acked(7) || w.Late() != w.Late() {
		t.Error("two answers differ")
	}
}

// row is what was acked since a window became what it is, one by one.
type row struct {
	size, most int
	acks       []int
}

func (r *row) acked(n int) {
	for i := range nearest(n, 0) {
		r.acks = append(r.acks, i)
		if len(r.acks) == r.size {
			r.acks = nil
			if r.size < r.most {
				r.size++
			}
		}
	}
}

func (r *row) late() {
	r.acks = nil
	r.size -= r.size / 2
}

func TestAgainstARow(t *testing.T) { // P20.1, P20.2
	r := rand.New(rand.NewSource(201))
	for range 300 {
		most := r.Intn(20) - 2
		w := New(most)
		most = nearest(most, 1)
		plain := row{size: most - most/2, most: most}
		for range 200 {
			switch r.Intn(6) {
			case 0:
				w = w.Late()
				plain.late()
			case 1:
				n := edges[r.Intn(len(edges))]
				w = w.Acked(n)
				plain.acked(n)
			default:
				n := r.Intn(6)
				w = w.Acked(n)
				plain.acked(n)
			}
			expect(t, "by chance", w, plain.size, most)
			if w.Size() < 1 || w.Size() > w.Most() || w.Most() > api.MaxWindow {
				t.Errorf("Size %d, Most %d", w.Size(), w.Most())
			}
		}
		if t.Failed() {
			return
		}
	}
}

func TestEnoughAcks(t *testing.T) { // P20.2
	for most := 1; most <= 16; most++ {
		for lates := range 6 {
			w := New(most).Acked(lates)
			for range lates {
				w = w.Late()
			}
			for range 16 * 16 {
				w = w.Acked(1)
			}
			expect(t, "enough", w, most, most)
		}
	}
}
