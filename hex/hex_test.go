package hex

import (
	"bytes"
	"fmt"
	"math"
	"slices"
	"strings"
	"testing"

	"catwalk/api"
)

func TestText(t *testing.T) { // P3.1
	for _, c := range []struct {
		b    []byte
		want string
	}{
		{[]byte{1, 171}, "01ab"}, // the chapter's example
		{nil, ""},
		{[]byte{}, ""},
		{[]byte{0}, "00"},
		{[]byte{0, 0, 0}, "000000"},
		{[]byte{0xf0, 0x0f}, "f00f"},
		{[]byte{255, 255}, "ffff"},
		{[]byte{0x9a, 0xa9}, "9aa9"},
		{[]byte("0 a\n"), "3020610a"},
	} {
		if got := Text(c.b); got != c.want {
			t.Errorf("Text(%v): %q, not %q", c.b, got, c.want)
		}
	}
}

func TestEachByteIsWrittenAndRead(t *testing.T) { // P3.1
	for i := range 256 {
		b := []byte{7, byte(i), 200}
		want := fmt.Sprintf("07%02xc8", i)
		if got := Text(b); got != want {
			t.Errorf("Text of %d: %q, not %q", i, got, want)
		}
		if got, err := Read(want); err != api.OK || !bytes.Equal(got, b) {
			t.Errorf("Read(%q): %v, %v", want, got, err)
		}
	}
}

func TestReadOfAnyTwoBytes(t *testing.T) { // P3.1
	texts := map[string]byte{}
	for i := range 256 {
		texts[fmt.Sprintf("%02x", i)] = byte(i)
	}
	for i := range 65536 {
		s := string([]byte{byte(i >> 8), byte(i)})
		want, right := texts[s]
		got, err := Read(s)
		if right && (err != api.OK || !bytes.Equal(got, []byte{want})) {
			t.Errorf("Read(%q): %v, %v", s, got, err)
		}
		if !right && (err != api.ErrForm || len(got) != 0) {
			t.Errorf("Read(%q) isn't refused: %v, %v", s, got, err)
		}
	}
}

func TestReadOfNothing(t *testing.T) { // P3.1
	if got, err := Read(""); err != api.OK || len(got) != 0 {
		t.Fatal(got, err)
	}
}

func TestReadOfNoText(t *testing.T) { // P3.1
	for _, s := range []string{
		"0", "a", "012", "01a", "01abc",
		"0G", "g0", "0A", "A0", "01AB", "01aB", "01abFF",
		"0x01", "x01", "01 ab", " 01", "01 ", "01\n", "\n\n", "  ", "01--",
		"-1", "+1", "0.", "0/", "0:", "0`", "0@", "01\x00\x00",
		"é", "01é", "\xff\xff", "٠٠", strings.Repeat("01", 500) + "0g",
	} {
		if got, err := Read(s); err != api.ErrForm || len(got) != 0 {
			t.Errorf("Read(%q): %v, %v", s, got, err)
		}
	}
}

func TestReadAnswersNewMemory(t *testing.T) { // rule 5
	one, _ := Read("010203")
	two, _ := Read("010203")
	one[0] = 99
	if !bytes.Equal(two, []byte{1, 2, 3}) {
		t.Fatal(two)
	}
	if again, err := Read("010203"); err != api.OK || !bytes.Equal(again, []byte{1, 2, 3}) {
		t.Fatal(again, err)
	}
}

func TestTextLeavesItsBytes(t *testing.T) { // rule 5
	b := []byte{1, 2}
	s := Text(b)
	if !bytes.Equal(b, []byte{1, 2}) {
		t.Fatal("the bytes are turned", b)
	}
	b[0] = 9
	if s != "0102" {
		t.Fatal("the text hangs on the bytes", s)
	}
}

func TestNum(t *testing.T) { // P3.2
	for _, c := range []struct {
		n    int
		want string
	}{
		{0, "0"},
		{1, "1"},
		{9, "9"},
		{10, "10"},
		{100, "100"},
		{65535, "65535"},
		{1 << 40, "1099511627776"},
		{1<<40 + 1, "1099511627777"}, // further than is read, it is written all the same
		{math.MaxInt, "9223372036854775807"},
		{-1, "0"},
		{-10, "0"},
		{-1 << 40, "0"},
		{math.MinInt, "0"},
	} {
		if got := Num(c.n); got != c.want {
			t.Errorf("Num(%d): %q, not %q", c.n, got, c.want)
		}
	}
}

func TestNumbersAreReadAsTheyWereWritten(t *testing.T) { // P3.2
	l := []int{1<<40 - 1, 1 << 40}
	for i := range 2000 {
		l = append(l, i)
	}
	for i := range 40 {
		l = append(l, 1<<i-1, 1<<i, 1<<i+1)
	}
	for n := 1; n < 1<<40; n *= 10 {
		l = append(l, n-1, n, n+1)
	}
	for _, n := range l {
		s := fmt.Sprint(n)
		if got := Num(n); got != s {
			t.Errorf("Num(%d): %q", n, got)
		}
		if got, err := ReadNum(s); err != api.OK || got != n {
			t.Errorf("ReadNum(%q): %d, %v", s, got, err)
		}
	}
}

func TestReadNumOfNone(t *testing.T) { // P3.2
	for _, s := range []string{
		"", " ", "-", "+", "a", "x1", "0x1", "0b1", "1a", "1e3", "1.0", "1.", ".1", "1_0", "1,0",
		"00", "01", "007", "0000000000000000000000000000001",
		"-0", "+0", "-1", "+1", "-5", "--1", " 1", "1 ", "1\n", "\n1", "1 2", "1\x00",
		"1/", "1:", "/", ":", "１", "٣", "1٣", "²", "\xff",
		"1099511627777",                // 2^40 + 1
		"1099511627780",                // longer than 2^40 by nothing but its last digit
		"2000000000000",                // as long as 2^40
		"10995116277760",               // ten times 2^40
		"9223372036854775807",          // 2^63 - 1
		"9223372036854775808",          // 2^63
		"18446744073709551615",         // 2^64 - 1
		"18446744073709551616",         // 2^64, that may go round to 0
		"18446744073709551621",         // to 5
		"1208925819614629174706181",    // 2^80 + 5
		"-18446744073709551611",        // 5 - 2^64
		strings.Repeat("9", 5000),      // longer than any number
		"1" + strings.Repeat("0", 64),  // divided by 2^64
		"0" + strings.Repeat("0", 100), // noughts alone
	} {
		if got, err := ReadNum(s); err != api.ErrForm || got != 0 {
			t.Errorf("ReadNum(%q): %d, %v", s, got, err)
		}
	}
}

// cut is a text, and what it is cut into.
type cut struct {
	s    string
	want []string
}

// checkCuts holds what a function cuts texts into against what it should.
func checkCuts(t *testing.T, name string, f func(string) []string, l []cut) {
	t.Helper()
	for _, c := range l {
		if got := f(c.s); !slices.Equal(got, c.want) {
			t.Errorf("%s(%q): %q, not %q", name, c.s, got, c.want)
		}
	}
}

func TestWords(t *testing.T) { // P3.3
	checkCuts(t, "Words", Words, []cut{
		{"", nil},
		{" ", nil},
		{"    ", nil},
		{"a", []string{"a"}},
		{"gre 1 x01ab", []string{"gre", "1", "x01ab"}},
		{" a", []string{"a"}},
		{"a ", []string{"a"}},
		{"  a   b  ", []string{"a", "b"}},
		{"a\tb", []string{"a\tb"}},
		{"a\nb c\r", []string{"a\nb", "c\r"}},
		{"\n", []string{"\n"}},
		{"a\u00a0b", []string{"a\u00a0b"}}, // a blank, but not byte 32
		{"a\u3000b", []string{"a\u3000b"}},
		{"é ü", []string{"é", "ü"}},
		{"\xe3 \x80\xff \xff", []string{"\xe3", "\x80\xff", "\xff"}}, // no UTF-8: bytes all the same
		{"\x00 \x00", []string{"\x00", "\x00"}},
	})
}

func TestLines(t *testing.T) { // P3.3
	checkCuts(t, "Lines", Lines, []cut{
		{"", nil},
		{"\n", []string{""}},
		{"\n\n\n", []string{"", "", ""}},
		{"a", []string{"a"}},
		{"a\n", []string{"a"}},
		{"a\nb", []string{"a", "b"}},
		{"a\nb\n", []string{"a", "b"}},
		{"\na", []string{"", "a"}},
		{"a\n\nb\n\n", []string{"a", "", "b", ""}},
		{" \n ", []string{" ", " "}}, // a blank isn't empty
		{"a\r\nb\r", []string{"a\r", "b\r"}},
		{"a\vb\fc\u0085d\u2028e\n", []string{"a\vb\fc\u0085d\u2028e"}},
		{"\xff\n\xe3\n\x80", []string{"\xff", "\xe3", "\x80"}},
	})
}

// between tells what stands between the bytes c, that behind the last one too, byte by byte.
func between(s string, c byte) []string {
	l := []string{""}
	for i := range len(s) {
		if s[i] == c {
			l = append(l, "")
			continue
		}
		l[len(l)-1] += s[i : i+1]
	}
	return l
}

func TestWordsAndLinesOfAllShortTexts(t *testing.T) { // P3.3
	texts := []string{""}
	for range 5 {
		longer := []string{""}
		for _, s := range texts {
			for _, c := range "a \n\t" {
				longer = append(longer, s+string(c))
			}
		}
		texts = longer
	}
	for _, s := range texts {
		words := slices.DeleteFunc(between(s, ' '), func(w string) bool { return w == "" })
		lines := between(s, '\n')
		if last := len(lines) - 1; lines[last] == "" {
			lines = lines[:last]
		}
		checkCuts(t, "Words", Words, []cut{{s, words}})
		checkCuts(t, "Lines", Lines, []cut{{s, lines}})
	}
}

func TestEachAnswerIsAList(t *testing.T) { // rule 5, P2
	for _, f := range []func(string) []string{Words, Lines} {
		const s = "a \nb \n"
		one := f(s)
		want := slices.Clone(one)
		one[0] = "turned"
		_ = append(one[:1], "turned")
		if got := f(s); !slices.Equal(got, want) {
			t.Errorf("%q, not %q", got, want)
		}
	}
}
