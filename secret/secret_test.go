package secret

import (
	"fmt"
	"math/rand"
	"slices"
	"sort"
	"strings"
	"testing"

	"catwalk/api"
)

// long: a text of so many bytes.
func long(n int) string { return strings.Repeat("x", n) }

// numbered: so many secrets, their names rising.
func numbered(n int) []api.Secret {
	var l []api.Secret
	for i := range n {
		l = append(l, api.Secret{Name: fmt.Sprintf("name%03d", i), Key: fmt.Sprintf("key%d", i)})
	}
	return l
}

// holds: has a table these secrets, and no others?
func holds(t *testing.T, tab Table, l []api.Secret) {
	t.Helper()
	var names []string
	for _, s := range l {
		names = append(names, s.Name)
		if key, ok := tab.Find(s.Name); key != s.Key || !ok {
			t.Errorf("Find(%q): %q, %v, not %q", s.Name, key, ok, s.Key)
		}
	}
	sort.Strings(names)
	if got := tab.Names(); !slices.Equal(got, names) {
		t.Errorf("Names: %q, not %q", got, names)
	}
	if tab.Len() != len(l) {
		t.Errorf("Len: %d, not %d", tab.Len(), len(l))
	}
	for _, name := range []string{"", "nobody", "name", "name0000", "NAME000", "\x00", "\xff", long(41), long(5000)} {
		if slices.Contains(names, name) {
			continue
		}
		if key, ok := tab.Find(name); key != "" || ok {
			t.Errorf("Find(%.50q): %q, %v", name, key, ok)
		}
	}
}

func TestRight(t *testing.T) { // P14.1
	for _, c := range []struct {
		name, key int // bytes of them
		want      bool
	}{
		{1, 1, true}, {40, 40, true}, {1, 40, true}, {40, 1, true}, {20, 7, true},
		{0, 0, false}, {0, 1, false}, {1, 0, false}, {0, 40, false}, {40, 0, false},
		{41, 1, false}, {1, 41, false}, {41, 41, false}, {40, 41, false}, {41, 40, false}, {5000, 5, false}, {5, 5000, false},
	} {
		if got := Right(api.Secret{Name: long(c.name), Key: long(c.key)}); got != c.want {
			t.Errorf("Right of %d and %d bytes: %v", c.name, c.key, got)
		}
	}
	for _, s := range []string{"\x00", " ", "\n", "\xff\xfe", strings.Repeat("é", 20), strings.Repeat("\x00", 40)} {
		if !Right(api.Secret{Name: s, Key: s}) {
			t.Errorf("%q isn't right", s)
		}
	}
	if s := strings.Repeat("é", 21); Right(api.Secret{Name: s, Key: "k"}) || Right(api.Secret{Name: "n", Key: s}) {
		t.Error("bytes count, not letters")
	}
}

func TestTheExample(t *testing.T) { // P14.1
	tab, err := New(api.Secret{Name: "a", Key: "x"})
	if key, ok := tab.Find("a"); key != "x" || !ok || err != api.OK {
		t.Fatal(key, ok, err)
	}
}

func TestNone(t *testing.T) { // P14.1
	var zero Table
	holds(t, zero, nil)
	for _, l := range [][]api.Secret{nil, {}} {
		tab, err := New(l...)
		if err != api.OK {
			t.Error(err)
		}
		holds(t, tab, nil)
	}
}

func TestNewOfUpToTheLimit(t *testing.T) { // P14.1
	for n := range 9 {
		tab, err := New(numbered(n)...)
		if err != api.OK {
			t.Errorf("%d secrets: %v", n, err)
		}
		holds(t, tab, numbered(n))
	}
}

func TestNewOfNone(t *testing.T) { // P14.1
	with := func(l []api.Secret, i int, s api.Secret) []api.Secret {
		l = slices.Clone(l)
		l[i] = s
		return l
	}
	a, b := api.Secret{Name: "a", Key: "x"}, api.Secret{Name: "b", Key: "y"}
	again, bad := api.Secret{Name: "a", Key: "z"}, api.Secret{Name: "c"}
	for _, c := range []struct {
		why  string
		l    []api.Secret
		want api.Errno
	}{
		{"nine", numbered(9), api.ErrSize},
		{"a hundred", numbered(100), api.ErrSize},
		{"nine, and one isn't right", with(numbered(9), 0, bad), api.ErrSize},
		{"nine, and a name is there twice", with(numbered(9), 1, numbered(1)[0]), api.ErrSize},
		{"no name and no key", []api.Secret{{}}, api.ErrArg},
		{"no name", []api.Secret{{Key: "x"}}, api.ErrArg},
		{"no key", []api.Secret{{Name: "a"}}, api.ErrArg},
		{"a name too long", []api.Secret{{Name: long(41), Key: "x"}}, api.ErrArg},
		{"a key too long", []api.Secret{{Name: "a", Key: long(41)}}, api.ErrArg},
		{"the last of eight", with(numbered(8), 7, bad), api.ErrArg},
		{"the first of eight", with(numbered(8), 0, bad), api.ErrArg},
		{"a name twice", []api.Secret{a, again}, api.ErrTwice},
		{"a secret twice", []api.Secret{a, a}, api.ErrTwice},
		{"a name twice, with others", []api.Secret{b, a, again}, api.ErrTwice},
		{"a name twice, not at once", []api.Secret{a, b, again}, api.ErrTwice},
		{"the first and the last of eight", with(numbered(8), 7, numbered(1)[0]), api.ErrTwice},
		{"twice, then one that isn't right", []api.Secret{a, again, bad}, api.ErrTwice},
		{"one that isn't right, then twice", []api.Secret{a, bad, again}, api.ErrArg},
		{"one that isn't right, ahead of two", []api.Secret{bad, a, again}, api.ErrArg},
		{"one that isn't right, of a name that was there", []api.Secret{a, {Name: "a"}}, api.ErrArg},
	} {
		tab, err := New(c.l...)
		if err != c.want {
			t.Errorf("%s: %v, not %v", c.why, err, c.want)
		}
		if tab != (Table{}) {
			t.Errorf("%s: a table that isn't empty: %q", c.why, tab.Names())
		}
		holds(t, tab, nil)
	}
}

func TestNamesAreHeldByteByByte(t *testing.T) { // P14.1
	names := []string{"b", "B", "a", "ab", "\x00", "é", "\xff", "A"}
	var l []api.Secret
	for _, n := range names {
		l = append(l, api.Secret{Name: n, Key: "key of " + n})
	}
	want := []string{"\x00", "A", "B", "a", "ab", "b", "é", "\xff"}
	for range 2 {
		tab, err := New(l...)
		if got := tab.Names(); err != api.OK || !slices.Equal(got, want) {
			t.Fatalf("%q, %v", got, err)
		}
		holds(t, tab, l)
		slices.Reverse(l)
	}
}

func TestFindOfWhatBeginsAlike(t *testing.T) { // P14.1
	l := []api.Secret{{Name: "ab", Key: "1"}, {Name: "abc", Key: "2"}, {Name: long(40), Key: long(40)}, {Name: long(39), Key: "3"}}
	tab, err := New(l...)
	if err != api.OK {
		t.Fatal(err)
	}
	holds(t, tab, l)
	for _, name := range []string{"a", "abcd", "AB", "ab ", " ab", "ab\x00", long(38), long(41)} {
		if key, ok := tab.Find(name); key != "" || ok {
			t.Errorf("Find(%q): %q, %v", name, key, ok)
		}
	}
}

func TestOfAny(t *testing.T) { // P14.1
	r := rand.New(rand.NewSource(14))
	seen := map[api.Errno]int{}
	for range 50000 {
		l := make([]api.Secret, r.Intn(10))
		for i := range l {
			l[i] = api.Secret{Name: string([]byte{'a' + byte(r.Intn(20))}) + long(r.Intn(3)), Key: string([]byte{byte(r.Intn(256))})}
			if r.Intn(40) == 0 {
				l[i].Key = long(r.Intn(2) * 41)
			}
		}
		want := byWords(l)
		tab, err := New(l...)
		if err != want {
			t.Fatalf("New(%q): %v, not %v", l, err, want)
		}
		if err != api.OK {
			l = nil
		}
		holds(t, tab, l)
		seen[err]++
	}
	if len(seen) != 4 {
		t.Fatal(seen)
	}
}

// byWords: the error that New is to answer, by the chapter's words.
func byWords(l []api.Secret) api.Errno {
	if len(l) > 8 {
		return api.ErrSize
	}
	was := map[string]int{}
	for _, s := range l {
		if len(s.Name) < 1 || len(s.Name) > 40 || len(s.Key) < 1 || len(s.Key) > 40 {
			return api.ErrArg
		}
		if was[s.Name]++; was[s.Name] > 1 {
			return api.ErrTwice
		}
	}
	return api.OK
}

func TestWhatIsHandedInIsntKept(t *testing.T) { // rule 5
	l := numbered(8)
	slices.Reverse(l)
	was := slices.Clone(l)
	tab, _ := New(l...)
	if !slices.Equal(l, was) {
		t.Fatal("what was handed in is turned", l)
	}
	l[0] = api.Secret{Name: "other", Key: "other"}
	holds(t, tab, was)
}

func TestAnswersAreNewMemory(t *testing.T) { // rule 5
	tab, _ := New(numbered(3)...)
	other := tab
	names := tab.Names()
	names[0] = "other"
	_ = append(names[:1], "more")
	holds(t, tab, numbered(3))
	holds(t, other, numbered(3))
}
