package port_test

import (
	"fmt"
	"testing"

	"fairlink/api"
	"fairlink/port"
)

const otherKey = "fedcba9876543210"

func reset(t *testing.T, p *port.Port, key, want string) []api.Event {
	t.Helper()
	l, e := p.Reset(key)
	if show(l) != want || e != api.OK {
		t.Errorf("P11: Reset(%q): %s, %v; want %s, OK", key, show(l), e, want)
	}
	if want == "[]" && l != nil {
		t.Errorf("P11: Reset: no event, but the list is not nil")
	}
	return l
}

// Also with the key that it has, what waits is flushed, and all counts but the first are 0.
func TestReset(t *testing.T) {
	for _, k := range append(rightKeys(), key, otherKey, key[:15]+"g", "1"+key[1:]) {
		c, p := waiting(t)
		advance(t, p, 20, "[]")
		l := reset(t, p, k, "[20F2.0/40 20F1.1/50 20F3.1/30]")
		if l[0].Frame != in(t, c, 0, 40) || l[1].Frame != in(t, c, 1, 50) || l[2].Frame != in(t, c, 1, 30) {
			t.Errorf("P11: the frames are not what they were: %s", full(l))
		}
		counts(t, p, 4, 0, 0, 0, 0, 0, 0)
		now(t, p, 20, true)
		held(t, p, 0, 0)
		advance(t, p, 39, "[]")
		now(t, p, 59, true)
		advance(t, p, 1, "[]")
		now(t, p, 60, false)
		counts(t, p, 4, 0, 0, 0, 0, 0, 0)
		c.Key = k
		arrive(t, p, in(t, c, 1, 60), 4, "[60S4.1/60]")
		counts(t, p, 5, 1, 0, 0, 0, 0, 60)
	}
}

func TestResetRefusesWrongKeys(t *testing.T) {
	_, p := waiting(t)
	before := see(p)
	for _, k := range wrongKeys() {
		if l, e := p.Reset(k); l != nil || e != api.ErrConfig {
			t.Errorf("P11: Reset of %d bytes: %s, %v; want nil, ErrConfig", len(k), full(l), e)
		}
		if after := see(p); after != before {
			t.Errorf("P11: Reset of %d bytes was refused, and yet: %s; before: %s", len(k), after, before)
		}
	}
	advance(t, p, 1000, "[60S2.0/40 100S1.1/50 150S3.1/30]")
}

// A port that has taken nothing in, or of which nothing waits.
func TestResetWithNothingWaiting(t *testing.T) {
	p := open(t, easy())
	reset(t, p, otherKey, "[]")
	counts(t, p, 0, 0, 0, 0, 0, 0, 0)
	now(t, p, 0, false)
	arrive(t, p, ip(60), 0, "[0S0.0/60]")
	reset(t, p, otherKey, "[]")
	counts(t, p, 1, 0, 0, 0, 0, 0, 0)
	now(t, p, 0, true)
	advance(t, p, 100, "[]")
	reset(t, p, otherKey, "[]")
	now(t, p, 100, false)
	arrive(t, p, ip(60), 1, "[100S1.0/60]")
	counts(t, p, 2, 1, 0, 0, 0, 0, 60)
}

func TestResetTwice(t *testing.T) {
	c, p := waiting(t)
	reset(t, p, otherKey, "[0F2.0/40 0F1.1/50 0F3.1/30]")
	reset(t, p, otherKey, "[]")
	reset(t, p, key, "[]")
	arrive(t, p, in(t, c, 1, 60), 4, "[]")
	reset(t, p, key, "[0F4.1/60]")
	counts(t, p, 5, 0, 0, 0, 0, 0, 0)
	arrive(t, p, in(t, c, 1, 60), 5, "[]")
	advance(t, p, 60, "[60S5.1/60]")
	counts(t, p, 6, 1, 0, 0, 0, 0, 60)
}

// Each kind of event has been counted before: each is 0 afterwards, and goes on from there.
func TestResetOfAllCounts(t *testing.T) {
	c := hurried()
	c.Packets, c.ECN = 15, true
	p := open(t, c)
	play := func() {
		for i := 0; i < 17; i++ {
			p.Arrive(ecn(byte(i%2), 60))
		}
		p.Advance(600)
		c.Length = 121 - c.Length
		p.Configure(c)
	}
	play()
	first := p.Counts()
	for k, n := range first {
		if n == 0 {
			t.Errorf("P11: this run is to meet all kinds: there is none of %d", k)
		}
	}
	p.Advance(1000)
	reset(t, p, key, "[]")
	counts(t, p, 17, 0, 0, 0, 0, 0, 0)
	play()
	second := p.Counts()
	first[0] += 17
	if fmt.Sprint(second) != fmt.Sprint(first) {
		t.Errorf("P11: then counts are %v; want %v", second, first)
	}
}

// The key that Reset gives is the one that Configure compares with.
func TestConfigureAfterReset(t *testing.T) {
	c, p := waiting(t)
	reset(t, p, otherKey, "[0F2.0/40 0F1.1/50 0F3.1/30]")
	other := c
	other.Key = otherKey
	arrive(t, p, in(t, other, 0, 60), 4, "[]")
	configure(t, p, other, "[]")
	held(t, p, 1, 124)
	configure(t, p, c, "[0F4.0/60]")
	counts(t, p, 5, 0, 0, 0, 0, 1, 0)
}

// All but the key holds as it was, also what Configure gave.
func TestResetKeepsTheRest(t *testing.T) {
	_, p := waiting(t)
	c := api.Config{Buckets: 3, Quantum: 20, Packets: 2, Memory: 230, Length: 100, Target: 1, Interval: 1, Tau: 5, ECN: true, Key: key}
	configure(t, p, c, "[0F2.0/40 0F1.1/50 0F3.1/30]")
	reset(t, p, otherKey, "[]")
	c.Key = otherKey
	advance(t, p, 60, "[]")
	arrive(t, p, in(t, c, 2, 100), 4, "[60S4.2/100]")
	arrive(t, p, in(t, c, 1, 20), 5, "[]")
	arrive(t, p, in(t, c, 1, 20), 6, "[]")
	arrive(t, p, in(t, c, 0, 20), 7, "[60O5.1/20]")
	arrive(t, p, in(t, c, 0, 90), 8, "[60O7.0/20 60O8.0/90]")
	if id, l, e := p.Arrive(filled(0, 101)); id != -1 || l != nil || e != api.ErrLong {
		t.Errorf("P4: %d, %s, %v", id, full(l), e)
	}
	advance(t, p, 499, "[]")
	advance(t, p, 1, "[560S6.1/20]")
	advance(t, p, 100, "[]")
	now(t, p, 660, false)
}

// The end of time.
func TestResetAtTheEndOfTime(t *testing.T) {
	p := open(t, easy())
	p.Advance(api.MaxTime)
	p.Arrive(ip(60))
	p.Arrive(ip(50))
	reset(t, p, key, fmt.Sprintf("[%dF1.0/50]", api.MaxTime))
	now(t, p, api.MaxTime, true)
	arrive(t, p, ip(50), 2, "[]")
}
