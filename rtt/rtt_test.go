package rtt

import (
	"math"
	"math/rand"
	"testing"
)

// plain is a Time by the chapter's words, step by step: eight times how long answers take, four times how far they are off.
type plain struct{ m, d int }

// begin: a plain Time of so many ticks.
func begin(ticks int) plain { return plain{m: 8 * within(ticks, 1)} }

// within: ticks cut to low to 64.
func within(ticks, low int) int {
	if ticks < low {
		return low
	}
	if ticks > 64 {
		return 64
	}
	return ticks
}

// part: a number, that isn't below 0, divided and rounded down.
func part(n, by int) int { return (n - n%by) / by }

func (p plain) sample(ticks int) plain {
	x := within(ticks, 0) - part(p.m, 8)
	m := p.m + x
	if m < 8 {
		m = 8
	}
	away := x
	if away < 0 {
		away = -away
	}
	return plain{m, p.d + away - part(p.d, 4)}
}

func (p plain) late() plain {
	m := 2 * p.m
	if m > 512 {
		m = 512
	}
	return plain{m, p.d}
}

// expect: what a Time tells is this.
func expect(t *testing.T, when string, x Time, mean, off, wait int) {
	t.Helper()
	if x.Mean() != mean || x.Off() != off || x.Wait() != wait {
		t.Errorf("%s: Mean %d, Off %d, Wait %d, not %d, %d, %d", when, x.Mean(), x.Off(), x.Wait(), mean, off, wait)
	}
}

// alike: what a Time tells is what a plain one says.
func alike(t *testing.T, when string, x Time, p plain) {
	t.Helper()
	expect(t, when, x, part(p.m, 8), part(p.d, 4), within(part(p.m, 8)+p.d, 1))
}

// edges are ticks of every kind.
var edges = []int{math.MinInt, math.MinInt + 1, -1 << 40, -65, -1, 0, 1, 2, 7, 8, 31, 32, 63, 64, 65, 128, 1 << 40, math.MaxInt - 1, math.MaxInt}

func TestNew(t *testing.T) { // P19.1
	if Most != 64 {
		t.Error("Most", Most)
	}
	expect(t, "the chapter's example", New(2), 2, 0, 2)
	for ticks := 1; ticks <= 64; ticks++ {
		expect(t, "New", New(ticks), ticks, 0, ticks)
	}
	for _, ticks := range []int{math.MinInt, -1 << 40, -1, 0, 1} {
		expect(t, "of too few", New(ticks), 1, 0, 1)
	}
	for _, ticks := range []int{64, 65, 1 << 40, math.MaxInt} {
		expect(t, "of too many", New(ticks), 64, 0, 64)
	}
}

func TestSample(t *testing.T) { // P19.1: by hand
	x := New(2)                                      // m 16, d 0
	expect(t, "as long", x.Sample(2), 2, 0, 2)       // 16, 0
	expect(t, "at once", x.Sample(0), 1, 0, 3)       // 14, 2
	expect(t, "longer", x.Sample(5), 2, 0, 5)        // 19, 3
	expect(t, "much longer", x.Sample(12), 3, 2, 13) // 26, 10
	x = x.Sample(12).Sample(12)                      // 26, 10; then 35, 17
	expect(t, "twice", x, 4, 4, 21)
	x = x.Sample(1) // 32, 16
	expect(t, "then shorter", x, 4, 4, 20)
	expect(t, "the least m is 8", New(1).Sample(0), 1, 0, 2) // 8, 1
	expect(t, "the greatest", New(1).Sample(64), 8, 15, 64)  // 71, 63
	expect(t, "Wait is cut", New(60).Sample(0), 52, 15, 64)  // 420, 60
}

func TestSampleIsCut(t *testing.T) { // P19.1
	for _, begin := range []int{1, 2, 30, 64} {
		x := New(begin)
		for _, ticks := range edges {
			if x.Sample(ticks) != x.Sample(within(ticks, 0)) {
				t.Errorf("New(%d), Sample(%d)", begin, ticks)
			}
		}
		if x.Sample(0) == x.Sample(1) || x.Sample(63) == x.Sample(64) {
			t.Errorf("New(%d): the edges are cut", begin)
		}
	}
}

func TestLate(t *testing.T) { // P19.1
	expect(t, "once", New(3).Late(), 6, 0, 6)
	expect(t, "twice", New(3).Late().Late(), 12, 0, 12)
	expect(t, "31", New(31).Late(), 62, 0, 62)
	expect(t, "32", New(32).Late(), 64, 0, 64)
	expect(t, "33", New(33).Late(), 64, 0, 64)
	expect(t, "the greatest", New(64).Late(), 64, 0, 64)
	x := New(2).Sample(12)                   // 26, 10
	expect(t, "d stays", x.Late(), 6, 2, 16) // 52, 10
	x = New(40).Sample(0)                    // 280, 40
	expect(t, "d stays, m is cut", x.Late(), 64, 10, 64)
	x = x.Late().Sample(64) // 512, 30
	expect(t, "from the greatest", x, 64, 7, 64)
}

func TestValues(t *testing.T) { // P2: a Time isn't turned
	x := New(5)
	x.Sample(50)
	x.Late()
	expect(t, "as it was", x, 5, 0, 5)
	if x.Sample(9) != x.Sample(9) || x.Late() != New(5).Late() {
		t.Error("two answers differ")
	}
}

func TestByTheChapter(t *testing.T) { // P19.1
	r := rand.New(rand.NewSource(191))
	for range 400 {
		ticks := r.Intn(80) - 5
		x, p := New(ticks), begin(ticks)
		for range 100 {
			ticks := r.Intn(80) - 5
			switch r.Intn(12) {
			case 0:
				x, p = x.Late(), p.late()
			case 1:
				ticks = edges[r.Intn(len(edges))]
				x, p = x.Sample(ticks), p.sample(ticks)
			default:
				x, p = x.Sample(ticks), p.sample(ticks)
			}
			alike(t, "by chance", x, p)
		}
		if t.Failed() {
			return
		}
	}
}

// reached: all Times that come of others by Samples and Late.
func reached() []Time {
	seen := map[Time]int{}
	var all []Time
	add := func(x Time) {
		if _, ok := seen[x]; !ok {
			seen[x] = 1
			all = append(all, x)
		}
	}
	for ticks := 1; ticks <= 64; ticks++ {
		add(New(ticks))
	}
	for i := 0; i < len(all) && len(all) < 30000; i++ {
		add(all[i].Late())
		for ticks := range 65 {
			add(all[i].Sample(ticks))
		}
	}
	return all
}

func TestWithin(t *testing.T) { // P19.2
	for _, x := range reached() {
		if x.Mean() < 1 || x.Mean() > 64 || x.Wait() < 1 || x.Wait() > 64 || x.Off() < 0 {
			t.Fatalf("%+v: Mean %d, Off %d, Wait %d", x, x.Mean(), x.Off(), x.Wait())
		}
	}
}

func TestComesToRest(t *testing.T) { // P19.2
	starts := []Time{New(1), New(64), New(1).Sample(64), New(64).Sample(0), New(64).Sample(0).Late(), New(9).Sample(64).Late().Late()}
	for ticks := 2; ticks < 64; ticks++ {
		starts = append(starts, New(ticks), New(ticks).Sample(65-ticks))
	}
	all := reached()
	for i := 0; i < len(all); i += 199 {
		starts = append(starts, all[i])
	}
	for _, from := range starts {
		for ticks := 1; ticks <= 64; ticks++ {
			x := from
			for range 300 {
				x = x.Sample(ticks)
			}
			if x.Mean() != ticks || x.Off() != 0 {
				t.Fatalf("from %+v, 300 times %d: Mean %d, Off %d", from, ticks, x.Mean(), x.Off())
			}
		}
	}
}
