package echo

import (
	"math"
	"math/rand"
	"testing"

	"catwalk/api"
)

// tick: Tick answers this.
func tick(t *testing.T, e *Echo, now int, id uint8, asks, gone bool) {
	t.Helper()
	if i, a, g := e.Tick(now); i != id || a != asks || g != gone {
		t.Errorf("Tick(%d): %d, %v, %v, not %d, %v, %v", now, i, a, g, id, asks, gone)
	}
}

// quiet: it doesn't ask at a tick.
func quiet(t *testing.T, e *Echo, now int) {
	t.Helper()
	tick(t, e, now, 0, false, false)
}

// asks: it asks at a tick, with an identifier.
func asks(t *testing.T, e *Echo, now int, id uint8) {
	t.Helper()
	tick(t, e, now, id, true, false)
}

// gone: at a tick the other end is gone.
func gone(t *testing.T, e *Echo, now int) {
	t.Helper()
	tick(t, e, now, 0, false, true)
}

// missed: whether it asks, and how many are missed.
func missed(t *testing.T, e *Echo, on bool, n int) {
	t.Helper()
	if e.On() != on || e.Missed() != n {
		t.Errorf("On %v, Missed %d, not %v, %d", e.On(), e.Missed(), on, n)
	}
}

// heard: Heard answers this.
func heard(t *testing.T, e *Echo, id uint8, want bool) {
	t.Helper()
	if e.Heard(id) != want {
		t.Errorf("Heard(%d): %v", id, !want)
	}
}

func TestZero(t *testing.T) { // P23.1
	var e Echo
	missed(t, &e, false, 0)
	for _, now := range []int{math.MinInt, -1, 0, 1, 20, 1 << 40, math.MaxInt} {
		quiet(t, &e, now)
	}
	heard(t, &e, 0, false)
	heard(t, &e, 1, false)
	e.Stop()
	missed(t, &e, false, 0)
}

func TestExample(t *testing.T) { // P23.1: the chapter's
	var e Echo
	e.Start(0)
	asks(t, &e, 20, 1)
}

func TestStart(t *testing.T) { // P23.1
	for _, from := range []int{-1 << 40, -20, -7, 0, 1, 1000, 1 << 40} {
		var e Echo
		e.Start(from)
		missed(t, &e, true, 0)
		heard(t, &e, 0, false) // nothing is missed
		for now := from; now < from+20; now++ {
			quiet(t, &e, now)
		}
		asks(t, &e, from+20, 1)
		quiet(t, &e, from+20)
		missed(t, &e, true, 1)
	}
}

func TestGone(t *testing.T) { // P23.1
	var e Echo
	e.Start(0)
	asks(t, &e, 20, 1)
	asks(t, &e, 40, 2)
	asks(t, &e, 60, 3)
	missed(t, &e, true, 3)
	quiet(t, &e, 79)
	for range 3 { // and nothing has changed by that
		gone(t, &e, 80)
		missed(t, &e, true, 3)
	}
	gone(t, &e, 500)
	heard(t, &e, 2, false)
	gone(t, &e, 500)
	heard(t, &e, 3, true)
	missed(t, &e, true, 0)
	asks(t, &e, 501, 4) // its tick has come long ago
	if api.LinkMisses != 3 || api.LinkEcho != 20 {
		t.Error("the limits")
	}
}

func TestTheNextTickIsBehindNow(t *testing.T) { // P23.1
	var e Echo
	e.Start(0)
	asks(t, &e, 33, 1)
	quiet(t, &e, 40)
	quiet(t, &e, 52)
	asks(t, &e, 53, 2)
	heard(t, &e, 2, true)
	quiet(t, &e, 72) // an answer moves no tick
	asks(t, &e, 73, 3)
}

func TestHeard(t *testing.T) { // P23.1
	var e Echo
	e.Start(0)
	asks(t, &e, 20, 1)
	heard(t, &e, 0, false)
	heard(t, &e, 2, false)
	heard(t, &e, 255, false)
	missed(t, &e, true, 1)
	heard(t, &e, 1, true)
	missed(t, &e, true, 0)
	heard(t, &e, 1, false) // nothing is missed any more
	asks(t, &e, 40, 2)
	asks(t, &e, 60, 3)
	missed(t, &e, true, 2)
	heard(t, &e, 2, false) // not the last one
	missed(t, &e, true, 2)
	heard(t, &e, 3, true)
	missed(t, &e, true, 0)
	for n := range 3 {
		asks(t, &e, 80+20*n, uint8(4+n))
	}
	gone(t, &e, 140)
}

func TestStop(t *testing.T) { // P23.1
	var e Echo
	e.Start(0)
	asks(t, &e, 20, 1)
	e.Stop()
	missed(t, &e, false, 1) // till it is answered
	heard(t, &e, 1, false)
	for _, now := range []int{20, 40, 1000} {
		quiet(t, &e, now)
	}
	missed(t, &e, false, 1)
	e.Start(1000)
	missed(t, &e, true, 0)
	heard(t, &e, 1, false)
	quiet(t, &e, 1019)
	asks(t, &e, 1020, 2) // Start counts on
	e.Stop()
	e.Stop()
	missed(t, &e, false, 1)
}

func TestStopWhenGone(t *testing.T) { // P23.1
	var e Echo
	e.Start(0)
	for n := range 3 {
		asks(t, &e, 20*n+20, uint8(n+1))
	}
	e.Stop()
	quiet(t, &e, 80)
	e.Start(80)
	asks(t, &e, 100, 4)
	missed(t, &e, true, 1)
}

func TestStartAgain(t *testing.T) { // P23.1
	var e Echo
	e.Start(0)
	asks(t, &e, 20, 1)
	asks(t, &e, 40, 2)
	e.Start(45)
	missed(t, &e, true, 0)
	heard(t, &e, 2, false)
	quiet(t, &e, 64)
	asks(t, &e, 65, 3)
	heard(t, &e, 3, true)
}

func TestIdentifiersGoRound(t *testing.T) { // P23.1
	var e Echo
	e.Start(0)
	now := 0
	for n := 1; n <= 600; n++ {
		now += 20
		asks(t, &e, now, uint8(n%256))
		heard(t, &e, uint8((n+255)%256), false)
		heard(t, &e, uint8(n%256), true)
	}
}

// plain is an Echo by the chapter's words.
type plain struct {
	on              bool
	next, id, count int
}

func (p *plain) tick(now int) (uint8, bool, bool) {
	switch {
	case !p.on, now < p.next:
		return 0, false, false
	case p.count == 3:
		return 0, false, true
	}
	p.id = (p.id + 1) % 256
	p.count++
	p.next = now + 20
	return uint8(p.id), true, false
}

func (p *plain) heard(id uint8) bool {
	ok := p.on && p.count > 0 && int(id) == p.id
	if ok {
		p.count = 0
	}
	return ok
}

func TestByTheChapter(t *testing.T) { // P23.1, P2
	r := rand.New(rand.NewSource(231))
	for range 50 {
		var e, other Echo
		var p plain
		now := r.Intn(100) - 50
		for range 2000 {
			now += r.Intn(12)
			other.Start(now)
			switch r.Intn(40) {
			case 0:
				e.Start(now)
				p.on, p.next, p.count = true, now+20, 0
			case 1:
				e.Stop()
				p.on = false
			case 2, 3, 4:
				id := uint8(p.id - r.Intn(2))
				heard(t, &e, id, p.heard(id))
			default:
				id, ask, over := p.tick(now)
				tick(t, &e, now, id, ask, over)
			}
			missed(t, &e, p.on, p.count)
		}
	}
}
