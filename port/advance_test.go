package port_test

import (
	"testing"

	"fairlink/api"
	"fairlink/port"
)

func refusesTime(t *testing.T, p *port.Port, n int) {
	t.Helper()
	before := see(p)
	l, e := p.Advance(n)
	if l != nil || e != api.ErrClock {
		t.Errorf("P5: Advance(%d): %s, %v; want nil, ErrClock", n, full(l), e)
	}
	if after := see(p); after != before {
		t.Errorf("P1: Advance(%d): %s became %s", n, before, after)
	}
}

func TestAdvanceByNothing(t *testing.T) {
	p := open(t, easy())
	advance(t, p, 0, "[]")
	now(t, p, 0, false)
	arrive(t, p, "a", 0, "[0S0.0/1]")
	arrive(t, p, "b", 1, "[]")
	advance(t, p, 0, "[]")
	now(t, p, 0, true)
	advance(t, p, 1, "[1S1.0/1]")
	advance(t, p, 0, "[]")
	now(t, p, 1, true)
}

func TestAdvanceBackOrBeyond(t *testing.T) {
	p := open(t, easy())
	for _, n := range []int{-1, -2, leastInt, leastInt + 1, api.MaxTime + 1, greatestInt - 1, greatestInt} {
		refusesTime(t, p, n)
	}
	arrive(t, p, filled('a', 20), 0, "[0S0.0/20]")
	arrive(t, p, filled('b', 20), 1, "[]")
	advance(t, p, 5, "[]")
	for _, n := range []int{-1, -5, leastInt, api.MaxTime - 4, api.MaxTime, greatestInt} {
		refusesTime(t, p, n)
	}
	advance(t, p, api.MaxTime-5, "[20S1.0/20]")
	now(t, p, api.MaxTime, false)
	for _, n := range []int{-1, 1, leastInt, -api.MaxTime, api.MaxTime, greatestInt} {
		refusesTime(t, p, n)
	}
	advance(t, p, 0, "[]")
}

func TestAdvanceToMaxTimeAtOnce(t *testing.T) {
	p := open(t, easy())
	advance(t, p, api.MaxTime, "[]")
	now(t, p, api.MaxTime, false)
	refusesTime(t, p, 1)
}

// A frame's time on the link may be over just at MaxTime, or not before it.
func TestLinkAtMaxTime(t *testing.T) {
	p := open(t, easy())
	advance(t, p, api.MaxTime-20, "[]")
	arrive(t, p, filled('a', 20), 0, "[4611686018427387884S0.0/20]")
	arrive(t, p, filled('b', 60), 1, "[]")
	advance(t, p, 20, "[4611686018427387904S1.0/60]")
	arrive(t, p, "c", 2, "[]")
	refusesTime(t, p, 1)
	advance(t, p, 0, "[]")
	now(t, p, api.MaxTime, true)
	held(t, p, 1, 65)

	c := easy()
	c.Length, c.Tau = 200, api.MaxTau
	p = open(t, c)
	advance(t, p, api.MaxTime-1, "[]")
	arrive(t, p, filled('a', 200), 0, "[4611686018427387903S0.0/200]")
	arrive(t, p, filled('b', 200), 1, "[]")
	advance(t, p, 1, "[]")
	now(t, p, api.MaxTime, true)
	held(t, p, 1, 264)
}

// One unit before its end a frame is still on the link; just at its end it is not.
func TestTimeOnLink(t *testing.T) {
	for _, x := range []struct{ bytes, tau int }{{1, 1}, {60, 1}, {1, 7}, {60, 3}, {60, api.MaxTau}, {1, api.MaxTau}} {
		c := easy()
		c.Tau = x.tau
		span := x.bytes * x.tau
		p := open(t, c)
		p.Arrive(filled('a', x.bytes))
		advance(t, p, span-1, "[]")
		now(t, p, span-1, true)
		advance(t, p, 1, "[]")
		now(t, p, span, false)

		p = open(t, c)
		p.Arrive(filled('a', x.bytes))
		p.Arrive("b")
		advance(t, p, span-1, "[]")
		l, e := p.Advance(1)
		if e != api.OK || len(l) != 1 || l[0] != (api.Event{At: span, Kind: api.Sent, ID: 1, Bucket: 0, Frame: "b"}) {
			t.Errorf("P5: %d bytes, Tau %d: %s, %v", x.bytes, x.tau, full(l), e)
		}
		now(t, p, span, true)
	}
}

// Each frame is on the link for its own length, and the next goes out at that time, not when the call ends.
func TestManyGoOutInOneAdvance(t *testing.T) {
	c := easy()
	c.Tau = 2
	p := open(t, c)
	for _, n := range []int{10, 1, 60, 20} {
		p.Arrive(filled('a', n))
	}
	advance(t, p, 162, "[20S1.0/1 22S2.0/60 142S3.0/20]")
	now(t, p, 162, true)
	advance(t, p, 20, "[]")
	now(t, p, 182, false)
}

func TestAllGoOutBeforeMaxTime(t *testing.T) {
	c := easy()
	c.Length, c.Packets, c.Memory, c.Tau, c.Quantum = 200, 64, api.MaxMemory, api.MaxTau, 1
	p := open(t, c)
	for i := 0; i < 65; i++ {
		p.Arrive(filled('a', 200))
	}
	held(t, p, 64, 64*264)
	l, e := p.Advance(api.MaxTime)
	if len(l) != 64 || e != api.OK {
		t.Fatalf("P5: %d events, %v; want 64, OK", len(l), e)
	}
	for i, x := range l {
		if x.ID != i+1 || x.Kind != api.Sent || x.At != (i+1)*200*api.MaxTau {
			t.Errorf("P5: event %d: %s", i, show(l[i:i+1]))
		}
	}
	now(t, p, api.MaxTime, false)
	counts(t, p, 65, 65, 0, 0, 0, 0, 65*200)
}

// A link that has been idle takes the next frame as it arrives, and is busy from then on.
func TestIdleLinkTakesAsItArrives(t *testing.T) {
	p := open(t, easy())
	arrive(t, p, filled('a', 10), 0, "[0S0.0/10]")
	advance(t, p, 10, "[]")
	arrive(t, p, filled('b', 10), 1, "[10S1.0/10]")
	advance(t, p, 25, "[]")
	now(t, p, 35, false)
	arrive(t, p, filled('c', 10), 2, "[35S2.0/10]")
	arrive(t, p, filled('d', 10), 3, "[]")
	advance(t, p, 9, "[]")
	advance(t, p, 1, "[45S3.0/10]")
}
