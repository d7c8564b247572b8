package limit

import (
	"math"
	"math/rand"
	"testing"
)

// edges are numbers of every kind.
var edges = []int{math.MinInt, math.MinInt + 1, -1 << 40, -Most, -1, 0, 1, 2, 10, Most - 1, Most, Most + 1, 1 << 32, 1 << 40, math.MaxInt - 1, math.MaxInt}

// within: a number cut to 0 to 2^20.
func within(n int) int {
	if n < 0 {
		return 0
	}
	if n > 1048576 {
		return 1048576
	}
	return n
}

// have: so much is in it.
func have(t *testing.T, when string, b Bucket, n int) {
	t.Helper()
	if b.Have() != n {
		t.Errorf("%s: Have %d, not %d", when, b.Have(), n)
	}
}

// take: the bucket behind a Take, which answers this.
func take(t *testing.T, b Bucket, n, now int, want bool) Bucket {
	t.Helper()
	out, ok := b.Take(n, now)
	if ok != want {
		t.Errorf("Take(%d, %d) of %+v: %v", n, now, b, ok)
	}
	return out
}

// ready: Ready answers this.
func ready(t *testing.T, b Bucket, n, want int) {
	t.Helper()
	if got := b.Ready(n); got != want {
		t.Errorf("Ready(%d) of %+v: %d, not %d", n, b, got, want)
	}
}

func TestExample(t *testing.T) { // P24.1: the chapter's
	b := take(t, New(2, 10, 0), 10, 0, true)
	have(t, "empty", b, 0)
	ready(t, b, 3, 2)
}

func TestNew(t *testing.T) { // P24.1
	if Most != 1048576 {
		t.Error("Most", Most)
	}
	for _, rate := range edges {
		for _, depth := range edges {
			for _, now := range []int{-1 << 40, -1, 0, 5, 1 << 40} {
				b := New(rate, depth, now)
				have(t, "full", b, within(depth))
				have(t, "never more", b.Fill(now+7), within(depth))
				empty := take(t, b, within(depth), now, true)
				have(t, "empty", empty, 0)
				have(t, "a tick behind", empty.Fill(now+1), min(within(rate), within(depth)))
				if within(depth) < 1048576 {
					ready(t, b, within(depth)+1, -1)
				}
			}
		}
	}
}

func TestFill(t *testing.T) { // P24.1: by hand
	b := take(t, New(3, 10, 5), 10, 5, true)
	for now, n := range []int{0, 0, 0, 0, 0, 0, 3, 6, 9, 10, 10} {
		have(t, "as of a tick", b.Fill(now), n)
	}
	c := b.Fill(7)
	have(t, "in two steps", c.Fill(8), 9)
	have(t, "as of an earlier tick", c.Fill(6), 6)
	have(t, "as of the same tick", c.Fill(7), 6)
	have(t, "and then on", c.Fill(6).Fill(8), 9) // 6 turned nothing back
	have(t, "as of ticks below 0", take(t, New(1, 10, -20), 10, -20, true).Fill(-15), 5)
}

func TestFillOfFarTicks(t *testing.T) { // P24.1, P1
	b := take(t, New(1, Most, -1<<40), Most, -1<<40, true)
	have(t, "one too few", b.Fill(-1<<40+Most-1), Most-1)
	have(t, "just full", b.Fill(-1<<40+Most), Most)
	have(t, "one past it", b.Fill(-1<<40+Most+1), Most)
	have(t, "the farthest", b.Fill(1<<40), Most)
	b = take(t, New(Most, Most, -1<<40), Most, -1<<40, true)
	have(t, "the most", b.Fill(1<<40), Most)
	b = take(t, New(Most, Most, math.MinInt), Most, math.MinInt, true)
	have(t, "beyond all ticks", b.Fill(math.MaxInt), Most)
	b = take(t, New(0, Most, -1<<40), Most, -1<<40, true)
	have(t, "nothing comes", b.Fill(1<<40), 0)
}

func TestFillIsAsOfATick(t *testing.T) { // P24.1: also when nothing comes into it
	b := New(5, 5, 0).Fill(100)
	b = take(t, b, 5, 100, true)
	have(t, "what went by while it was full doesn't count", b, 0)
	have(t, "from then on", b.Fill(100), 0)
	have(t, "and then", b.Fill(101), 5)
}

func TestTake(t *testing.T) { // P24.1
	b := New(2, 10, 0)
	b = take(t, b, 4, 0, true)
	have(t, "less 4", b, 6)
	b = take(t, b, 0, 0, true)
	have(t, "less 0", b, 6)
	b = take(t, b, 7, 0, false)
	have(t, "one more than there is", b, 6)
	b = take(t, b, 9, 1, false) // Fill alone
	have(t, "filled alone", b, 8)
	b = take(t, b, 9, 1, false)
	have(t, "not filled twice", b, 8)
	b = take(t, b, 10, 2, true)
	have(t, "filled, and all of it", b, 0)
	b = take(t, b, 1, 2, false)
	b = take(t, b, 3, 1, false) // a tick that isn't later
	have(t, "as it was", b, 0)
	b = take(t, b, 2, 3, true)
	have(t, "what came since", b, 0)
}

func TestTakeOfWrongNumbers(t *testing.T) { // P24.1, P1
	for _, n := range edges {
		if n >= 0 && n <= 10 {
			continue
		}
		b := take(t, New(2, 10, 0), 4, 0, true)
		b = take(t, b, n, 1, false)
		have(t, "filled alone", b, 8)
		for _, now := range edges {
			take(t, b, n, now, false)
		}
	}
}

func TestReady(t *testing.T) { // P24.1
	b := take(t, New(3, 10, 0), 8, 0, true) // 2 are in it
	for n, want := range []int{0, 0, 0, 1, 1, 1, 2, 2, 2, 3, 3, -1, -1} {
		ready(t, b, n, want)
	}
	for _, n := range []int{math.MinInt, -1 << 40, -1} {
		ready(t, b, n, 0)
	}
	for _, n := range []int{Most, 1 << 40, math.MaxInt - 1, math.MaxInt} {
		ready(t, b, n, -1)
	}
	b = take(t, New(0, 10, 0), 8, 0, true) // nothing comes
	for n, want := range []int{0, 0, 0, -1, -1, -1, -1, -1, -1, -1, -1, -1} {
		ready(t, b, n, want)
	}
	ready(t, New(5, 0, 0), 0, 0)
	ready(t, New(5, 0, 0), 1, -1)
	b = take(t, New(1, Most, 0), Most, 0, true)
	ready(t, b, Most, Most)
	ready(t, b, Most+1, -1)
	b = take(t, New(Most, Most, 0), Most, 0, true)
	ready(t, b, 1, 1)
	ready(t, b, Most, 1)
}

func TestReadyIsWhenThereIs(t *testing.T) { // P24.1
	for rate := range 6 {
		for depth := range 12 {
			for gone := range depth + 1 {
				b := take(t, New(rate, depth, 50), gone, 50, true)
				for n := range depth + 3 {
					want := -1
					for ticks := range 20 {
						if b.Fill(50+ticks).Have() >= n {
							want = ticks
							break
						}
					}
					ready(t, b, n, want)
				}
			}
		}
	}
}

func TestValues(t *testing.T) { // P2: a Bucket isn't turned
	b := take(t, New(2, 10, 0), 6, 0, true)
	b.Fill(2)
	b.Take(4, 0)
	b.Take(1, 5)
	b.Ready(9)
	have(t, "as it was", b, 4)
	if b.Fill(3) != b.Fill(3) {
		t.Error("two answers differ")
	}
}

// plain is a Bucket tick by tick.
type plain struct{ rate, depth, have, at int }

func (p *plain) fill(now int) {
	for ; p.at < now; p.at++ {
		p.have = min(p.have+p.rate, p.depth)
	}
}

func TestTickByTick(t *testing.T) { // P24.1
	r := rand.New(rand.NewSource(241))
	for range 300 {
		rate, depth, now := r.Intn(8), r.Intn(30), r.Intn(40)-20
		b, p := New(rate, depth, now), plain{rate, depth, depth, now}
		for range 200 {
			now += r.Intn(6) - 1
			n := r.Intn(depth+6) - 3
			if r.Intn(4) == 0 {
				b = b.Fill(now)
				p.fill(now)
			} else {
				p.fill(now)
				ok := n >= 0 && n <= p.have
				b = take(t, b, n, now, ok)
				if ok {
					p.have -= n
				}
			}
			have(t, "by chance", b, p.have)
		}
	}
}

func TestNoMoreIsTaken(t *testing.T) { // P24.2: between any two ticks
	r := rand.New(rand.NewSource(242))
	for range 60 {
		rate, depth, now := r.Intn(20), r.Intn(60), 0
		b := New(rate, depth, now)
		var at, taken []int
		for range 150 {
			now += max(r.Intn(8)-3, 0)
			n := r.Intn(depth + 2)
			var ok bool
			if b, ok = b.Take(n, now-r.Intn(3)); ok {
				at, taken = append(at, now), append(taken, n)
			}
		}
		for i := range at {
			sum := 0
			for j := i; j < len(at); j++ {
				sum += taken[j]
				if sum > depth+rate*(at[j]-at[i]+2) { // the ticks may be up to two earlier
					t.Fatalf("rate %d, depth %d: %d from %d to %d", rate, depth, sum, at[i], at[j])
				}
			}
		}
	}
}

func TestNoMoreIsTakenOfTheGreedy(t *testing.T) { // P24.2: all of it at each tick
	for rate := range 12 {
		for depth := range 25 {
			b := New(rate, depth, 0)
			sum := 0
			for now := range 40 {
				for _, n := range []int{b.Fill(now).Have(), 1, depth, -rate} {
					var ok bool
					if b, ok = b.Take(n, now); ok {
						sum += n
					}
				}
				if sum > depth+rate*now {
					t.Fatalf("rate %d, depth %d: %d in %d ticks", rate, depth, sum, now)
				}
			}
			if sum != depth+min(rate, depth)*39 {
				t.Errorf("rate %d, depth %d: %d", rate, depth, sum)
			}
		}
	}
}
