package dump

import (
	"bytes"
	"fmt"
	"math/rand"
	"slices"
	"strings"
	"testing"

	"catwalk/api"
)

// blanks: so many.
func blanks(n int) string { return strings.Repeat(" ", n) }

// row: n bytes, the first of which is first, each one more than the last.
func row(first, n int) []byte {
	var out []byte
	for i := range n {
		out = append(out, byte(first+i))
	}
	return out
}

// plain: the Text of bytes by the chapter's words.
func plain(b []byte) string {
	var out strings.Builder
	for at := 0; at < len(b) && at < 65536; at += 16 {
		letters := ""
		fmt.Fprintf(&out, "%04x", at)
		for i := at; i < at+16; i++ {
			if i >= len(b) {
				out.WriteString("   ")
				continue
			}
			fmt.Fprintf(&out, " %02x", b[i])
			if b[i] >= 32 && b[i] <= 126 {
				letters += string(rune(b[i]))
			} else {
				letters += "."
			}
		}
		out.WriteString(" |" + letters + "\n")
	}
	return out.String()
}

// bad: a text is none.
func bad(t *testing.T, how, s string) {
	t.Helper()
	if b, err := Read(s); len(b) != 0 || err != api.ErrForm {
		t.Errorf("%s: %q: %v, %v", how, s, b, err)
	}
}

// good: a text is that of bytes.
func good(t *testing.T, s string, want []byte) {
	t.Helper()
	if b, err := Read(s); !bytes.Equal(b, want) || err != api.OK {
		t.Errorf("Read: %v, %v, not %v", b, err, want)
	}
}

func TestPlain(t *testing.T) { // P25.1
	for c := range 256 {
		want := byte('.')
		if strings.IndexByte(` !"#$%&'()*+,-./0123456789:;<=>?@ABCDEFGHIJKLMNOPQRSTUVWXYZ[\]^_`+"`abcdefghijklmnopqrstuvwxyz{|}~", byte(c)) >= 0 {
			want = byte(c)
		}
		if got := Plain(byte(c)); got != want {
			t.Errorf("Plain(%d): %d", c, got)
		}
	}
}

func TestLines(t *testing.T) { // P25.1: by hand
	if Wide != 16 {
		t.Error("Wide", Wide)
	}
	for _, c := range []struct {
		b    []byte
		want []string
	}{
		{nil, nil},
		{[]byte{}, nil},
		{[]byte{65}, []string{"0000 41" + blanks(45) + " |A"}}, // the chapter's example
		{[]byte{0, 127}, []string{"0000 00 7f" + blanks(42) + " |.."}},
		{[]byte(" |~\n"), []string{"0000 20 7c 7e 0a" + blanks(36) + " | |~."}},
		{row(65, 15), []string{"0000 41 42 43 44 45 46 47 48 49 4a 4b 4c 4d 4e 4f" + blanks(3) + " |ABCDEFGHIJKLMNO"}},
		{row(65, 16), []string{"0000 41 42 43 44 45 46 47 48 49 4a 4b 4c 4d 4e 4f 50 |ABCDEFGHIJKLMNOP"}},
		{row(245, 17), []string{
			"0000 f5 f6 f7 f8 f9 fa fb fc fd fe ff 00 01 02 03 04 |................",
			"0010 05" + blanks(45) + " |.",
		}},
	} {
		if got := slices.Collect(Lines(c.b)); !slices.Equal(got, c.want) {
			t.Errorf("Lines(%v): %q", c.b, got)
		}
	}
}

func TestTheFirst65536(t *testing.T) { // P25.1
	b := bytes.Repeat([]byte("0123456789abcdef"), 4097)
	for _, n := range []int{65535, 65536, 65537, 65552} {
		got := slices.Collect(Lines(b[:n]))
		if len(got) != 4096 || !strings.HasPrefix(got[4095], "fff0 30 31") || !strings.HasPrefix(got[256], "1000 30") {
			t.Errorf("of %d: %d lines, the last %q", n, len(got), got[len(got)-1])
		}
		if Text(b[:n]) != plain(b[:min(n, 65536)]) {
			t.Errorf("Text of %d", n)
		}
	}
	if n := len(slices.Collect(Lines(b[:65520]))); n != 4095 {
		t.Errorf("a line less: %d", n)
	}
}

func TestText(t *testing.T) { // P25.1
	if Text(nil) != "" || Text([]byte{}) != "" {
		t.Error("of none")
	}
	if s := Text([]byte{65}); s != "0000 41"+blanks(46)+"|A\n" {
		t.Errorf("%q", s)
	}
	r := rand.New(rand.NewSource(251))
	for n := range 200 {
		b := make([]byte, n)
		r.Read(b)
		if Text(b) != plain(b) {
			t.Errorf("of %v: %q", b, Text(b))
		}
		if want := strings.Join(slices.Collect(Lines(b)), "\n"); n > 0 && Text(b) != want+"\n" {
			t.Errorf("of %v: the lines are %q", b, want)
		}
	}
}

func TestLeftAndGoneThroughAgain(t *testing.T) { // rule 8
	lines := Lines(row(0, 100))
	all := slices.Collect(lines)
	if len(all) != 7 {
		t.Fatal(len(all))
	}
	for left := range 8 {
		var got []string
		for l := range lines {
			if len(got) == left {
				break
			}
			got = append(got, l)
		}
		if !slices.Equal(got, all[:min(left, 7)]) {
			t.Errorf("left behind %d: %q", left, got)
		}
	}
	for outer := range lines {
		var got []string
		for inner := range lines {
			got = append(got, inner)
		}
		if !slices.Equal(got, all) {
			t.Errorf("at %q: %q", outer, got)
		}
	}
	none := Lines(nil)
	if none == nil || len(slices.Collect(none)) != 0 {
		t.Error("of none")
	}
}

func TestWhatIsHandedInStays(t *testing.T) { // rule 5
	b := row(65, 20)
	lines := Lines(b)
	s := Text(b)
	for i := range b {
		b[i] = 'x'
	}
	if got := strings.Join(slices.Collect(lines), "\n") + "\n"; got != s {
		t.Errorf("the bytes are kept: %q", got)
	}
	b = row(65, 20)
	for range Lines(b) {
	}
	Text(b)
	if !bytes.Equal(b, row(65, 20)) {
		t.Error("the bytes are changed")
	}
	first, _ := Read(s)
	first[0] = 9
	good(t, s, row(65, 20))
}

func TestRead(t *testing.T) { // P25.2
	good(t, "", nil)
	good(t, "0000 41"+blanks(46)+"|A\n", []byte{65})
	good(t, "0000 0a"+blanks(46)+"|.\n", []byte{10})
	r := rand.New(rand.NewSource(252))
	for n := range 200 {
		b := make([]byte, n)
		r.Read(b)
		good(t, plain(b), b)
	}
	b := make([]byte, 65536)
	r.Read(b)
	good(t, plain(b), b)
	good(t, plain(b[:65535]), b[:65535])
	good(t, Text(append(slices.Clone(b), 1, 2, 3)), b) // that of more is that of the first ones
}

func TestReadOfNone(t *testing.T) { // P25.2
	for _, c := range []struct{ how, s string }{
		{"an empty line", "\n"},
		{"two", "\n\n"},
		{"a blank", " "},
		{"a line without bytes", "0000" + blanks(49) + "|\n"},
		{"a place alone", "0000\n"},
		{"no byte 10", "0000 41" + blanks(46) + "|A"},
		{"two of them", "0000 41" + blanks(46) + "|A\n\n"},
		{"a byte 13", "0000 41" + blanks(46) + "|A\r\n"},
		{"a byte 10 ahead", "\n0000 41" + blanks(46) + "|A\n"},
		{"great figures", "0000 4A" + blanks(46) + "|J\n"},
		{"other letters", "0000 4g" + blanks(46) + "|J\n"},
		{"another place", "0001 41" + blanks(46) + "|A\n"},
		{"a place of three figures", "000 41" + blanks(47) + "|A\n"},
		{"a place of five figures", "00000 41" + blanks(46) + "|A\n"},
		{"a blank less", "0000 41" + blanks(45) + "|A\n"},
		{"a blank more", "0000 41" + blanks(47) + "|A\n"},
		{"another letter", "0000 41" + blanks(46) + "|B\n"},
		{"no letter", "0000 41" + blanks(46) + "|\n"},
		{"a letter more", "0000 41" + blanks(46) + "|A.\n"},
		{"the byte itself", "0000 7f" + blanks(46) + "|\x7f\n"},
		{"no bar", "0000 41" + blanks(46) + " A\n"},
		{"one figure", "0000 4 " + blanks(46) + "|A\n"},
		{"not from the first place on", "0000    41" + blanks(43) + "|A\n"},
		{"figures apart", "0000 4 1" + blanks(45) + "|A\n"},
		{"a gap", "0000 41    42" + blanks(40) + "|AB\n"},
		{"no blank between", "0000 4142" + blanks(44) + "|AB\n"},
		{"a tab", "0000\t41" + blanks(46) + "|A\n"},
		{"a byte too many", "0000 41 42 43 44 45 46 47 48 49 4a 4b 4c 4d 4e 4f 50 51 |ABCDEFGHIJKLMNOPQ\n"},
		{"one line twice", strings.Repeat("0000 41 42 43 44 45 46 47 48 49 4a 4b 4c 4d 4e 4f 50 |ABCDEFGHIJKLMNOP\n", 2)},
		{"a short one ahead", "0000 41" + blanks(46) + "|A\n0010 41" + blanks(46) + "|A\n"},
		{"from its second line on", "0010 41" + blanks(46) + "|A\n"},
		{"runes", "0000 41" + blanks(46) + "|\u00c4\n"},
		{"a line past the last", plain(make([]byte, 65536)) + "0000 41" + blanks(46) + "|A\n"},
		{"five figures past the last", plain(make([]byte, 65536)) + "10000 41" + blanks(46) + "|A\n"},
	} {
		bad(t, c.how, c.s)
	}
}

func TestReadOfOneByteTurned(t *testing.T) { // P25.2: nothing but a Text is read
	s := plain(row(118, 19))
	for at := range s {
		for c := range 256 {
			other := []byte(s)
			other[at] = byte(c)
			if string(other) == s {
				continue
			}
			// Where both bytes are points, one turned figure makes another Text.
			b, err := Read(string(other))
			if (err == api.OK) != (plain(b) == string(other)) || err != api.OK && (err != api.ErrForm || len(b) != 0) {
				t.Fatalf("%q: %v, %v", other, b, err)
			}
		}
		bad(t, "a byte less", s[:at]+s[at+1:])
		bad(t, "a blank more", s[:at]+" "+s[at:])
		if cut := strings.LastIndexByte(s[:at], '\n') + 1; cut != at {
			bad(t, "cut", s[:at])
		}
	}
}

func FuzzRead(f *testing.F) { // P25.2, P1
	f.Add("0000 41" + blanks(46) + "|A\n")
	f.Add(plain(row(0, 40)))
	f.Fuzz(func(t *testing.T, s string) {
		b, err := Read(s)
		if err == api.OK && plain(b) != s {
			t.Errorf("%q: %v", s, b)
		}
		if err != api.OK && (err != api.ErrForm || len(b) != 0) {
			t.Errorf("%q: %v, %v", s, b, err)
		}
	})
}
