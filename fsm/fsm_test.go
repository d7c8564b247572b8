package fsm

import (
	"math"
	"strings"
	"testing"
)

// table is the chapter's, by events.
var table = [...]string{
	Up:        "2 6ir . . . . . . . .",
	Down:      ". . 0 1s 0 1 1 1 1 1d",
	Open:      "1s 1 6ir 3 5 5 6 7 8 9",
	Close:     "0 0f 2 2 4 4 4it 4it 4it 4dit",
	TimeAgain: ". . . . 4t 5t 6r 6r 8r .",
	TimeOver:  ". . . . 2f 3f 3f 3f 3f .",
	ReqGood:   ". . 2k 8ira 4 5 8a 9au 8a 8dra",
	ReqBad:    ". . 2k 6irn 4 5 6n 7n 6n 6drn",
	Ack:       ". . 2k 3k 4 5 7i 6r 9iu 6dr",
	Nak:       ". . 2k 3k 4 5 6ir 6r 8ir 6dr",
	TermReq:   ". . 2k 3k 4k 5k 6k 6k 6k 5dzk",
	TermAck:   ". . 2 3 2f 3f 6 6 8 6dr",
	Unknown:   ". . 2j 3j 4j 5j 6j 7j 8j 9j",
	RejGood:   ". . 2 3 4 5 6 6 8 9",
	RejBad:    ". . 2f 3f 2f 3f 3f 3f 3f 5dit",
	Echo:      ". . 2 3 4 5 6 7 8 9e",
}

// letters are the actions', in the order of their numbers.
const letters = "udsfizrantkje"

// told: what a cell of the table says of a state.
func told(cell string, s State) (State, Act) {
	if cell == "." {
		return s, 0
	}
	acts := Act(0)
	for _, c := range cell[1:] {
		acts |= 1 << strings.IndexRune(letters, c)
	}
	return State(cell[0] - '0'), acts
}

// wrongs are numbers of no state and no event.
var wrongs = []int{math.MinInt, math.MinInt + 1, -256, -10, -1, 16, 17, 255, 256, 1 << 32, 1<<32 + 6, math.MaxInt - 1, math.MaxInt}

func TestNames(t *testing.T) {
	states := []State{Initial, Starting, Closed, Stopped, Closing, Stopping, ReqSent, AckRcvd, AckSent, Opened}
	for i, s := range states {
		if int(s) != i {
			t.Errorf("state %d is %d", i, s)
		}
	}
	events := []Event{Up, Down, Open, Close, TimeAgain, TimeOver, ReqGood, ReqBad, Ack, Nak, TermReq, TermAck, Unknown, RejGood, RejBad, Echo}
	for i, e := range events {
		if int(e) != i {
			t.Errorf("event %d is %d", i, e)
		}
	}
	acts := []Act{LayerUp, LayerDown, LayerStart, LayerFinish, InitCount, ZeroCount, SendReq, SendAck, SendNak, SendTerm, SendTermAck, SendRej, SendEcho}
	for i, a := range acts {
		if a != 1<<i {
			t.Errorf("action %d is %d", i, a)
		}
	}
	if len(states) != States || len(events) != Events || len(acts) != len(letters) {
		t.Error("States, Events")
	}
}

func TestStep(t *testing.T) { // P21.1: each cell
	for e := range Event(Events) {
		cells := strings.Fields(table[e])
		if len(cells) != States {
			t.Fatalf("event %d has %d cells", e, len(cells))
		}
		for s := range State(States) {
			to, acts := told(cells[s], s)
			if got, did := Step(s, e); got != to || did != acts {
				t.Errorf("Step(%d, %d): %d, %b, not %d, %b", s, e, got, did, to, acts)
			}
		}
	}
}

func TestExamples(t *testing.T) { // P21.1: the chapter's, and some of RFC 1661's
	for _, c := range []struct {
		s    State
		e    Event
		to   State
		acts Act
	}{
		{ReqSent, Ack, AckRcvd, InitCount},
		{Initial, Up, Closed, 0},
		{Closed, Open, ReqSent, InitCount | SendReq},
		{AckRcvd, ReqGood, Opened, SendAck | LayerUp},
		{AckSent, Ack, Opened, InitCount | LayerUp},
		{Opened, Close, Closing, LayerDown | InitCount | SendTerm},
		{Opened, TermReq, Stopping, LayerDown | ZeroCount | SendTermAck},
		{Opened, Down, Starting, LayerDown},
		{Stopped, ReqGood, AckSent, InitCount | SendReq | SendAck},
		{Stopped, ReqBad, ReqSent, InitCount | SendReq | SendNak},
		{Closing, TermAck, Closed, LayerFinish},
		{Opened, Echo, Opened, SendEcho},
		{Opened, Unknown, Opened, SendRej},
		{Stopped, Down, Starting, LayerStart},
		{Starting, Close, Initial, LayerFinish},
		{Opened, Up, Opened, 0},           // a dot
		{Opened, TimeAgain, Opened, 0},    // a dot
		{Initial, ReqGood, Initial, 0},    // a dot
		{Starting, TimeOver, Starting, 0}, // a dot
	} {
		if to, acts := Step(c.s, c.e); to != c.to || acts != c.acts {
			t.Errorf("Step(%d, %d): %d, %b, not %d, %b", c.s, c.e, to, acts, c.to, c.acts)
		}
	}
}

func TestStepOfNone(t *testing.T) { // P21.1, P1
	for _, n := range append(wrongs, 10, 11) { // no such state
		s := State(n)
		for e := range Event(Events) {
			if to, acts := Step(s, e); to != s || acts != 0 {
				t.Errorf("Step(%d, %d): %d, %b", s, e, to, acts)
			}
		}
	}
	for _, n := range wrongs { // no such event
		e := Event(n)
		for s := range State(States) {
			if to, acts := Step(s, e); to != s || acts != 0 {
				t.Errorf("Step(%d, %d): %d, %b", s, e, to, acts)
			}
		}
		for _, s := range wrongs {
			if to, acts := Step(State(s), e); to != State(s) || acts != 0 {
				t.Errorf("Step(%d, %d): %d, %b", s, e, to, acts)
			}
		}
	}
}

func TestHas(t *testing.T) { // P21.1
	for i := range len(letters) {
		for j := range len(letters) {
			if Act(1<<i).Has(1<<j) != (i == j) {
				t.Errorf("Has of %d and %d", i, j)
			}
		}
	}
	for _, c := range []struct {
		a, l Act
		want bool
	}{
		{0, 0, false},
		{LayerUp, 0, false},
		{0, LayerUp, false},
		{0, math.MaxUint16, false},
		{math.MaxUint16, 0, false},
		{math.MaxUint16, SendEcho, true},
		{InitCount | SendReq, SendReq, true},
		{InitCount | SendReq, SendReq | SendTerm, true}, // one of them is enough
		{InitCount | SendReq, SendTerm | SendReq | InitCount, true},
		{InitCount | SendReq, SendTerm | LayerUp, false},
		{1 << 15, 1 << 15, true}, // also of no name
		{1 << 15, 1 << 14, false},
	} {
		if c.a.Has(c.l) != c.want {
			t.Errorf("%b has %b: %v", c.a, c.l, !c.want)
		}
	}
}

func TestTimed(t *testing.T) { // P21.1
	for s, want := range []bool{false, false, false, false, true, true, true, true, true, false, false, false} {
		if Timed(State(s)) != want {
			t.Errorf("Timed(%d): %v", s, !want)
		}
	}
	for _, s := range wrongs {
		if Timed(State(s)) {
			t.Errorf("Timed(%d)", s)
		}
	}
}

func TestTimedIsWhereTheTimeCounts(t *testing.T) { // P21.1
	for s := range State(States) {
		_, again := Step(s, TimeAgain)
		_, over := Step(s, TimeOver)
		if Timed(s) != (again != 0) || Timed(s) != (over != 0) {
			t.Errorf("state %d", s)
		}
	}
}

func TestLayerUpAndDown(t *testing.T) { // P21.2
	for s := State(-3); s < States+3; s++ {
		for e := Event(-3); e < Events+3; e++ {
			to, acts := Step(s, e)
			if acts.Has(LayerUp) != (s != Opened && to == Opened) {
				t.Errorf("LayerUp: Step(%d, %d): %d, %b", s, e, to, acts)
			}
			if acts.Has(LayerDown) != (s == Opened && to != Opened) {
				t.Errorf("LayerDown: Step(%d, %d): %d, %b", s, e, to, acts)
			}
		}
	}
}

func TestAgain(t *testing.T) { // P2
	for s := range State(States) {
		for e := range Event(Events) {
			to, acts := Step(s, e)
			Step(Opened, Down)
			if other, did := Step(s, e); other != to || did != acts {
				t.Errorf("Step(%d, %d) differs from itself", s, e)
			}
		}
	}
}
