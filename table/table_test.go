package table

import (
	"math"
	"math/rand"
	"slices"
	"testing"
)

// expect: a table has things under these keys, and under no others.
func expect[T any](t *testing.T, when string, tab *Table[T], keys ...Key) {
	t.Helper()
	if got := tab.Keys(); !slices.Equal(got, keys) {
		t.Fatalf("%s: the keys are %v, not %v", when, got, keys)
	}
	if tab.Len() != len(keys) {
		t.Fatalf("%s: %d, not %d", when, tab.Len(), len(keys))
	}
}

func TestEmpty(t *testing.T) { // P18.1
	for _, most := range []int{3, 1, 0, -1, math.MinInt, math.MaxInt} {
		tab := New[string](most)
		expect(t, "new", tab)
		if x, ok := tab.Get(Key{}); x != "" || ok || tab.Drop(Key{}) || tab.Many(0) != 0 || len(tab.Of(0)) != 0 {
			t.Errorf("New(%d) has something", most)
		}
	}
}

func TestExample(t *testing.T) { // P18.1: the chapter's
	tab := New[string](2)
	if !tab.Put(Key{0, 1}, "a") {
		t.Fatal("Put")
	}
	if n, ok := tab.Fresh(0); n != 2 || !ok {
		t.Fatal(n, ok)
	}
}

func TestPutAndGet(t *testing.T) { // P18.1
	tab := New[string](3)
	keys := []Key{{-7, 65535}, {0, 0}, {0, 1}, {0, 65535}, {2, 1}, {math.MaxInt, 5}}
	for i, at := range []int{4, 1, 5, 3, 0, 2} {
		if !tab.Put(keys[at], string(rune('a'+at))) {
			t.Fatalf("Put %d", i)
		}
	}
	expect(t, "put", tab, keys...)
	for at, k := range keys {
		if x, ok := tab.Get(k); x != string(rune('a'+at)) || !ok {
			t.Errorf("Get(%v): %s, %v", k, x, ok)
		}
	}
	for _, k := range []Key{{0, 2}, {1, 1}, {2, 0}, {-7, 5}, {65535, 0}} {
		if x, ok := tab.Get(k); x != "" || ok {
			t.Errorf("Get(%v): %s, %v", k, x, ok)
		}
	}
}

func TestPutTwice(t *testing.T) { // P18.1
	tab := New[string](3)
	k := Key{1, 5}
	if !tab.Put(k, "a") || tab.Put(k, "b") || tab.Put(k, "a") {
		t.Error("Put twice")
	}
	if x, ok := tab.Get(k); x != "a" || !ok || tab.Many(1) != 1 {
		t.Error("what was there is another thing", x, ok)
	}
	zero := New[string](3)
	if !zero.Put(k, "") || zero.Put(k, "a") {
		t.Error("a zero thing is something")
	}
	if x, ok := zero.Get(k); x != "" || !ok || !zero.Drop(k) {
		t.Error("a zero thing", x, ok)
	}
}

func TestMost(t *testing.T) { // P18.1
	tab := New[int](3)
	for n := range 5 {
		if tab.Put(Key{1, uint16(n * 9)}, n) != (n < 3) {
			t.Errorf("Put %d", n)
		}
	}
	if tab.Many(1) != 3 || tab.Many(0) != 0 {
		t.Error("Many", tab.Many(1), tab.Many(0))
	}
	if !tab.Put(Key{0, 27}, 7) || !tab.Put(Key{2, 0}, 8) {
		t.Error("another peer has no room")
	}
	expect(t, "full", tab, Key{0, 27}, Key{1, 0}, Key{1, 9}, Key{1, 18}, Key{2, 0})
	if !tab.Drop(Key{1, 9}) || !tab.Put(Key{1, 27}, 6) || tab.Put(Key{1, 9}, 6) {
		t.Error("behind Drop there is room for one")
	}
}

func TestMostOfNone(t *testing.T) { // P18.1
	for _, most := range []int{0, -1, math.MinInt} {
		tab := New[int](most)
		if n, ok := tab.Fresh(0); tab.Put(Key{0, 1}, 1) || n != 0 || ok {
			t.Errorf("New(%d) has room", most)
		}
		expect(t, "of none", tab)
	}
}

func TestDrop(t *testing.T) { // P18.1
	tab := New[int](2)
	tab.Put(Key{1, 1}, 5)
	tab.Put(Key{1, 2}, 6)
	if tab.Drop(Key{1, 3}) || tab.Drop(Key{0, 1}) || !tab.Drop(Key{1, 1}) || tab.Drop(Key{1, 1}) {
		t.Error("Drop")
	}
	if x, ok := tab.Get(Key{1, 1}); x != 0 || ok || tab.Many(1) != 1 {
		t.Error("what was dropped is there", x, ok, tab.Many(1))
	}
	expect(t, "dropped", tab, Key{1, 2})
	if !tab.Drop(Key{1, 2}) || tab.Many(1) != 0 || !tab.Put(Key{1, 2}, 7) {
		t.Error("all were dropped")
	}
	if x, ok := tab.Get(Key{1, 2}); x != 7 || !ok {
		t.Error("put again", x, ok)
	}
}

// fresh: what Fresh answers is a number, or none.
func fresh(t *testing.T, tab *Table[int], conn int, want uint16, ok bool) {
	t.Helper()
	if n, had := tab.Fresh(conn); n != want || had != ok {
		t.Errorf("Fresh(%d): %d, %v, not %d, %v", conn, n, had, want, ok)
	}
}

func TestFresh(t *testing.T) { // P18.1
	tab := New[int](5)
	fresh(t, tab, 0, 1, true)
	fresh(t, tab, 0, 1, true) // it isn't taken by that
	tab.Put(Key{0, 0}, 0)
	fresh(t, tab, 0, 1, true)
	tab.Put(Key{0, 1}, 0)
	tab.Put(Key{0, 3}, 0)
	fresh(t, tab, 0, 2, true)
	tab.Put(Key{0, 2}, 0)
	fresh(t, tab, 0, 4, true)
	fresh(t, tab, 1, 1, true) // of another peer
	tab.Put(Key{0, 65535}, 0)
	fresh(t, tab, 0, 0, false) // as many as it may
	tab.Drop(Key{0, 1})
	fresh(t, tab, 0, 1, true)
	if tab.Len() != 4 {
		t.Error("Fresh put something")
	}
}

func TestFreshOfAllNumbers(t *testing.T) { // P18.1: there is room, but no number from 1 on
	for _, most := range []int{65535, 65536, 65537, math.MaxInt} {
		tab := New[int](most)
		for n := 65535; n > 1; n-- {
			tab.Put(Key{3, uint16(n)}, n)
		}
		fresh(t, tab, 3, 1, true)
		tab.Drop(Key{3, 65535})
		tab.Put(Key{3, 1}, 1)
		fresh(t, tab, 3, 65535, true)
		tab.Put(Key{3, 65535}, 1)
		fresh(t, tab, 3, 0, false)
		if tab.Put(Key{3, 0}, 0) != (most > 65535) {
			t.Errorf("Put of 0, at most %d", most)
		}
		fresh(t, tab, 3, 0, false)
		fresh(t, tab, 2, 1, true)
	}
}

func TestKeysAndOf(t *testing.T) { // P18.1
	tab := New[int](4)
	for _, k := range []Key{{2, 300}, {0, 2}, {2, 7}, {-1, 9}, {2, 65535}, {0, 256}, {10, 1}} {
		tab.Put(k, 1)
	}
	expect(t, "put", tab, Key{-1, 9}, Key{0, 2}, Key{0, 256}, Key{2, 7}, Key{2, 300}, Key{2, 65535}, Key{10, 1})
	for conn, want := range map[int][]Key{
		-2: nil, -1: {{-1, 9}}, 0: {{0, 2}, {0, 256}}, 1: nil, 2: {{2, 7}, {2, 300}, {2, 65535}}, 10: {{10, 1}}, math.MinInt: nil,
	} {
		if got := tab.Of(conn); !slices.Equal(got, want) || tab.Many(conn) != len(want) {
			t.Errorf("Of(%d): %v; Many: %d", conn, got, tab.Many(conn))
		}
	}
}

func TestNewMemory(t *testing.T) { // rule 5
	tab := New[int](4)
	tab.Put(Key{0, 1}, 1)
	tab.Put(Key{0, 2}, 2)
	tab.Keys()[0], tab.Of(0)[1] = Key{9, 9}, Key{8, 8}
	expect(t, "turned", tab, Key{0, 1}, Key{0, 2})
}

func TestTablesAreApart(t *testing.T) { // P2
	a, b := New[int](1), New[int](1)
	a.Put(Key{0, 1}, 1)
	if !b.Put(Key{0, 1}, 2) || !a.Drop(Key{0, 1}) || b.Len() != 1 {
		t.Error("one table hangs on another")
	}
}

func TestThingsOfAnyKind(t *testing.T) { // P18.1
	x := 5
	tab := New[*int](2)
	tab.Put(Key{0, 1}, &x)
	if p, ok := tab.Get(Key{0, 1}); p != &x || !ok {
		t.Error("a pointer")
	}
	calls := New[func() int](2)
	calls.Put(Key{0, 1}, func() int { return 9 })
	if f, ok := calls.Get(Key{0, 1}); !ok || f() != 9 {
		t.Error("a function")
	}
	if f, ok := calls.Get(Key{0, 2}); f != nil || ok {
		t.Error("no function")
	}
}

// entry is a key and what is under it; a plain table is a list of these.
type entry struct {
	k Key
	x int
}

// of: what a peer has in a plain table, by numbers.
func of(plain []entry, conn int) []Key {
	var out []Key
	for n := range uint16(8) { // no greater one is put
		for _, e := range plain {
			if e.k == (Key{conn, n}) {
				out = append(out, e.k)
			}
		}
	}
	return out
}

// firstFree: the least number from 1 on that isn't among a peer's keys.
func firstFree(keys []Key, conn int) uint16 {
	n := uint16(1)
	for slices.Contains(keys, Key{conn, n}) {
		n++
	}
	return n
}

func TestAgainstAList(t *testing.T) { // P18.1
	const most = 4
	r := rand.New(rand.NewSource(18))
	tab := New[int](most)
	var plain []entry
	for i := range 5000 {
		k := Key{r.Intn(4), uint16(r.Intn(8))}
		at := slices.IndexFunc(plain, func(e entry) bool { return e.k == k })
		keys := of(plain, k.Conn)
		if x, ok := tab.Get(k); ok != (at >= 0) || ok && x != plain[at].x || !ok && x != 0 {
			t.Fatalf("Get(%v): %d, %v", k, x, ok)
		}
		if r.Intn(2) == 0 {
			ok := at < 0 && len(keys) < most
			if tab.Put(k, i) != ok {
				t.Fatalf("Put(%v): %v", k, !ok)
			}
			if ok {
				plain = append(plain, entry{k, i})
			}
		} else {
			if tab.Drop(k) != (at >= 0) {
				t.Fatalf("Drop(%v): %v", k, at < 0)
			}
			if at >= 0 {
				plain = slices.Delete(plain, at, at+1)
			}
		}
		keys = of(plain, k.Conn)
		if got := tab.Of(k.Conn); !slices.Equal(got, keys) || tab.Many(k.Conn) != len(keys) {
			t.Fatalf("Of(%d): %v", k.Conn, got)
		}
		if len(keys) < most {
			fresh(t, tab, k.Conn, firstFree(keys, k.Conn), true)
		} else {
			fresh(t, tab, k.Conn, 0, false)
		}
		expect(t, "by chance", tab, slices.Concat(of(plain, 0), of(plain, 1), of(plain, 2), of(plain, 3))...)
	}
}
