package timer

import (
	"math"
	"math/rand"
	"slices"
	"strconv"
	"testing"

	"catwalk/api"
)

// expect: a queue's timers are those of these keys, that go off in this order; the first at a tick.
func expect[K comparable](t *testing.T, when string, q *Queue[K], next int, keys ...K) {
	t.Helper()
	if got := q.Keys(); !slices.Equal(got, keys) {
		t.Fatalf("%s: the keys are %v, not %v", when, got, keys)
	}
	if q.Len() != len(keys) {
		t.Fatalf("%s: %d timers, not %d", when, q.Len(), len(keys))
	}
	if at, ok := q.Next(); at != next || ok != (len(keys) > 0) {
		t.Fatalf("%s: the next one at %d, %v", when, at, ok)
	}
}

// popped: what Pop answers is a key, or none.
func popped[K comparable](t *testing.T, q *Queue[K], now int, key K, ok bool) {
	t.Helper()
	if got, had := q.Pop(now); got != key || had != ok {
		t.Fatalf("Pop(%d): %v, %v, not %v, %v", now, got, had, key, ok)
	}
}

func TestZero(t *testing.T) { // P17.1
	var q Queue[string]
	for range 2 {
		expect(t, "of the zero one", &q, 0)
		popped(t, &q, math.MaxInt, "", false)
		if at, ok := q.At("a"); at != 0 || ok || q.Cancel("a") || q.Clear() != 0 {
			t.Fatal("the zero Queue has a timer")
		}
	}
}

func TestExample(t *testing.T) { // P17.1: the chapter's
	var q Queue[int]
	if !q.Set(1, 5) || !q.Set(2, 5) || !q.Set(1, 5) {
		t.Fatal("Set")
	}
	expect(t, "set again", &q, 5, 2, 1)
}

func TestOrder(t *testing.T) { // P17.1
	var q Queue[string]
	for i, at := range []int{7, -3, 7, 0, -3, 7} {
		if !q.Set(string(rune('a'+i)), at) {
			t.Fatal("Set")
		}
	}
	expect(t, "set", &q, -3, "b", "e", "d", "a", "c", "f")
	q.Set("b", 7)
	expect(t, "set later", &q, -3, "e", "d", "a", "c", "f", "b")
	q.Set("a", 7)
	expect(t, "set at the same tick again", &q, -3, "e", "d", "c", "f", "b", "a")
	q.Set("f", -4)
	expect(t, "set earlier", &q, -4, "f", "e", "d", "c", "b", "a")
	q.Set("d", -3)
	expect(t, "set at another one's tick", &q, -4, "f", "e", "d", "c", "b", "a")
	for key, want := range map[string]int{"f": -4, "e": -3, "d": -3, "c": 7, "b": 7, "a": 7} {
		if at, ok := q.At(key); at != want || !ok {
			t.Errorf("At(%s): %d, %v", key, at, ok)
		}
	}
}

func TestPop(t *testing.T) { // P17.1
	var q Queue[string]
	q.Set("a", 10)
	q.Set("b", 8)
	q.Set("c", 10)
	popped(t, &q, 7, "", false)
	expect(t, "too early", &q, 8, "b", "a", "c")
	popped(t, &q, 8, "b", true) // no later than now
	popped(t, &q, 8, "", false)
	popped(t, &q, 9, "", false)
	popped(t, &q, 100, "a", true)
	popped(t, &q, 3, "", false) // ticks may go back
	popped(t, &q, 10, "c", true)
	popped(t, &q, 10, "", false)
	expect(t, "all went off", &q, 0)
	if at, ok := q.At("b"); at != 0 || ok || q.Cancel("b") {
		t.Error("a timer that went off is still there")
	}
	q.Set("b", 2) // also behind a later now
	popped(t, &q, 2, "b", true)
}

func TestCancel(t *testing.T) { // P17.1
	var q Queue[int]
	for key := range 5 {
		q.Set(key, 9-key)
	}
	if !q.Cancel(4) || q.Cancel(4) || !q.Cancel(2) || q.Cancel(7) {
		t.Fatal("Cancel")
	}
	expect(t, "cancelled", &q, 6, 3, 1, 0)
	if at, ok := q.At(2); at != 0 || ok {
		t.Error("At of one that was cancelled", at, ok)
	}
	q.Set(4, 9)
	expect(t, "set behind that", &q, 6, 3, 1, 0, 4)
}

func TestClear(t *testing.T) { // P17.1
	var q Queue[int]
	q.Set(3, 1)
	q.Set(4, 0)
	if n := q.Clear(); n != 2 {
		t.Error("Clear", n)
	}
	expect(t, "cleared", &q, 0)
	popped(t, &q, math.MaxInt, 0, false)
	if n := q.Clear(); n != 0 {
		t.Error("Clear of none", n)
	}
	q.Set(5, 6)
	q.Set(3, 6)
	expect(t, "set behind that", &q, 6, 5, 3)
}

func TestMostTimers(t *testing.T) { // P17.1
	var q Queue[int]
	var all []int
	for key := range api.MaxTimers {
		if !q.Set(key, 100) {
			t.Fatalf("%d don't fit", key+1)
		}
		all = append(all, key)
	}
	if q.Set(64, 1) || q.Set(-1, 1000) {
		t.Error("65 fit")
	}
	expect(t, "full", &q, 100, all...)
	if at, ok := q.At(64); at != 0 || ok {
		t.Error("what didn't fit is there", at, ok)
	}
	if !q.Set(0, 100) || !q.Set(1, 5) {
		t.Error("a timer that is there isn't set when all are")
	}
	expect(t, "full, and set again", &q, 5, append(append([]int{1}, all[2:]...), 0)...)
	popped(t, &q, 5, 1, true)
	if !q.Set(64, 100) || q.Set(1, 100) {
		t.Error("behind one that went off there is room for one")
	}
	if !q.Cancel(9) || !q.Set(1, 100) || q.Set(9, 100) {
		t.Error("behind one that was cancelled there is room for one")
	}
	if q.Clear() != api.MaxTimers || !q.Set(9, 100) {
		t.Error("behind Clear there is room")
	}
}

func TestEdgesOfTicks(t *testing.T) { // P1: ticks of any size
	var q Queue[string]
	q.Set("late", math.MaxInt)
	q.Set("early", math.MinInt)
	q.Set("now", 0)
	expect(t, "set", &q, math.MinInt, "early", "now", "late")
	popped(t, &q, math.MinInt, "early", true)
	popped(t, &q, math.MinInt, "", false)
	popped(t, &q, math.MaxInt-1, "now", true)
	popped(t, &q, math.MaxInt-1, "", false)
	popped(t, &q, math.MaxInt, "late", true)
}

// pair is a key of two parts.
type pair struct {
	conn int
	name string
}

func TestKeysOfStructs(t *testing.T) { // P17.1
	var q Queue[pair]
	q.Set(pair{1, "a"}, 4)
	q.Set(pair{1, "b"}, 3)
	q.Set(pair{2, "a"}, 2)
	q.Set(pair{}, 1)
	q.Set(pair{1, "a"}, 0)
	expect(t, "structs", &q, 0, pair{1, "a"}, pair{}, pair{2, "a"}, pair{1, "b"})
	popped(t, &q, 9, pair{1, "a"}, true)
	popped(t, &q, 1, pair{}, true)
	popped(t, &q, 1, pair{}, false)
}

func TestKeysThatDoNotFit(t *testing.T) { // P1: a list behind an interface is no key
	for name, q := range map[string]*Queue[any]{"empty": {}, "one": {}, "full": {}} {
		for key := range map[string]int{"empty": 0, "one": 1, "full": api.MaxTimers}[name] {
			q.Set(key, 7)
		}
		many := q.Len()
		for _, key := range []any{[]int{1}, []int(nil), map[int]int{}, func() {}, struct{ x any }{[]byte{}}, [1]any{[]int{}}} {
			at, ok := q.At(key)
			if at != 0 || ok || q.Set(key, 5) || q.Cancel(key) || q.Len() != many {
				t.Errorf("%s: a timer of a key that none may be", name)
			}
		}
	}
	var q Queue[any]
	q.Set("a", 3)
	q.Set(nil, 2)
	q.Set(2, 2)
	q.Set(uint8(2), 2)
	expect[any](t, "behind an interface", &q, 2, nil, 2, uint8(2), "a")
	if !q.Cancel(2) || q.Cancel(int64(2)) {
		t.Error("Cancel")
	}
	popped[any](t, &q, 9, nil, true)
}

func TestKeysThatAreNotThemselves(t *testing.T) { // P1: each of them goes off, and none stays for ever
	var q Queue[float64]
	q.Set(1, 5)
	q.Set(math.NaN(), 4)
	q.Set(math.NaN(), 6)
	if at, ok := q.At(math.NaN()); at != 0 || ok || q.Cancel(math.NaN()) || q.Len() != 3 {
		t.Error("a key that isn't itself is found")
	}
	for _, want := range []float64{4, 1, 6} {
		if got, ok := q.Pop(9); !ok || want == 1 && got != 1 || want != 1 && !math.IsNaN(got) {
			t.Errorf("Pop: %v, %v", got, ok)
		}
	}
	expect(t, "all went off", &q, 0)
	q.Set(math.NaN(), 4)
	q.Set(math.NaN(), 4)
	q.Set(2, 4)
	for left := 2; left >= 0; left-- {
		if got, ok := q.Pop(4); !ok || math.IsNaN(got) != (left > 0) || q.Len() != left {
			t.Errorf("Pop at one tick: %v, %v, %d are left", got, ok, q.Len())
		}
	}
	for range 100 {
		q.Set(math.NaN(), 1)
	}
	if n := q.Clear(); n != api.MaxTimers || q.Len() != 0 {
		t.Errorf("of 100 there are %d", n)
	}
}

func TestKeysIsNewMemory(t *testing.T) { // rule 5
	var q Queue[int]
	q.Set(1, 1)
	q.Set(2, 2)
	q.Keys()[0] = 9
	expect(t, "turned", &q, 1, 1, 2)
}

func TestQueuesAreApart(t *testing.T) { // P2
	var a, b Queue[int]
	a.Set(1, 1)
	b.Set(2, 2)
	a.Clear()
	expect(t, "the other one", &b, 2, 2)
}

// row is timers as a plain row, in the order in which they were set last.
type row []struct{ key, at int }

func (r *row) cancel(key int) bool {
	for i, x := range *r {
		if x.key == key {
			*r = slices.Delete(*r, i, i+1)
			return true
		}
	}
	return false
}

func (r *row) set(key, at int) bool {
	if !r.cancel(key) && len(*r) == 64 {
		return false
	}
	*r = append(*r, struct{ key, at int }{key, at})
	return true
}

// first: the place of the one that goes off first; -1: there is none.
func (r row) first() int {
	best := -1
	for i, x := range r {
		if best < 0 || x.at < r[best].at {
			best = i
		}
	}
	return best
}

// keys: all, by taking the first one again and again.
func (r row) keys() []int {
	var out []int
	left := slices.Clone(r)
	for len(left) > 0 {
		i := left.first()
		out = append(out, left[i].key)
		left = slices.Delete(left, i, i+1)
	}
	return out
}

// step: one call of a queue by chance, and what the row says to it; how they differ.
func step(r *rand.Rand, q *Queue[int], plain *row) string {
	key, at := r.Intn(90), r.Intn(12)
	switch r.Intn(20) {
	case 0:
		if r.Intn(20) > 0 {
			break
		}
		if n := q.Clear(); n != len(*plain) {
			return "Clear: " + strconv.Itoa(n)
		}
		*plain = nil
	case 1, 2:
		if q.Cancel(key) != plain.cancel(key) {
			return "Cancel of " + strconv.Itoa(key)
		}
	case 3, 4:
		want, ok := 0, false
		if i := plain.first(); i >= 0 && (*plain)[i].at <= at {
			want, ok = (*plain)[i].key, true
			plain.cancel(want)
		}
		if got, had := q.Pop(at); got != want || had != ok {
			return "Pop: " + strconv.Itoa(got)
		}
	default:
		if q.Set(key, at) != plain.set(key, at) {
			return "Set of " + strconv.Itoa(key)
		}
	}
	return ""
}

func TestAgainstARow(t *testing.T) { // P17.1
	for seed := range int64(20) {
		r := rand.New(rand.NewSource(seed))
		var q Queue[int]
		var plain row
		for range 600 {
			if wrong := step(r, &q, &plain); wrong != "" {
				t.Fatal(wrong)
			}
			next := 0
			if i := plain.first(); i >= 0 {
				next = plain[i].at
			}
			expect(t, "by chance", &q, next, plain.keys()...)
			for _, x := range plain {
				if at, ok := q.At(x.key); at != x.at || !ok {
					t.Fatalf("At(%d): %d, %v", x.key, at, ok)
				}
			}
		}
	}
}
