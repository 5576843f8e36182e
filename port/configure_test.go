package port_test

import (
	"fmt"
	"testing"

	"fairlink/api"
	"fairlink/port"
)

func configure(t *testing.T, p *port.Port, c api.Config, want string) []api.Event {
	t.Helper()
	l, e := p.Configure(c)
	if show(l) != want || e != api.OK {
		t.Errorf("P10: Configure(%+v): %s, %v; want %s, OK", c, show(l), e, want)
	}
	if want == "[]" && l != nil {
		t.Errorf("P10: Configure: no event, but the list is not nil")
	}
	return l
}

// refusesConfigure sees that a port refuses configurations, and shows no change.
func refusesConfigure(t *testing.T, p *port.Port, list ...api.Config) {
	t.Helper()
	before := see(p)
	for _, c := range list {
		if l, e := p.Configure(c); l != nil || e != api.ErrConfig {
			t.Errorf("P10: Configure(%+v): %s, %v; want nil, ErrConfig", c, full(l), e)
		}
		if after := see(p); after != before {
			t.Errorf("P10: Configure(%+v) was refused, and yet: %s; before: %s", c, after, before)
		}
	}
}

// waiting is a port of two buckets: 0 is on the link till 60, 1 and 3 wait in bucket 1, 2 in bucket 0.
func waiting(t *testing.T) (api.Config, *port.Port) {
	t.Helper()
	c := easy()
	c.Buckets = 2
	p := open(t, c)
	arrive(t, p, in(t, c, 1, 60), 0, "[0S0.1/60]")
	arrive(t, p, in(t, c, 1, 50), 1, "[]")
	arrive(t, p, in(t, c, 0, 40), 2, "[]")
	arrive(t, p, in(t, c, 1, 30), 3, "[]")
	return c, p
}

func TestConfigureTakesEachLimitJustKept(t *testing.T) {
	for _, l := range justKept() {
		p := open(t, easy())
		configure(t, p, changed(easy(), l), "[]")
		now(t, p, 0, false)
	}
	for _, k := range rightKeys() {
		p := open(t, easy())
		c := easy()
		c.Key = k
		configure(t, p, c, "[]")
	}
}

func TestConfigureRefusesEachLimitBroken(t *testing.T) {
	refusesConfigure(t, open(t, easy()), unsound()...)
	_, p := waiting(t)
	refusesConfigure(t, p, unsound()...)
	advance(t, p, 1000, "[60S2.0/40 100S1.1/50 150S3.1/30]")
}

// What is right in a configuration that is refused does not hold either.
func TestRefusedConfigurationHoldsInNoPart(t *testing.T) {
	for _, l := range [][]change{
		{{"Buckets", 3}, {"Tau", 0}}, {{"Quantum", 1}, {"Tau", 0}}, {{"Packets", 1}, {"Tau", 0}}, {{"Memory", 124}, {"Tau", 0}}, {{"Length", 50}, {"Tau", 0}},
		{{"Target", 1}, {"Interval", 1}, {"Tau", 0}}, {{"Tau", 2}, {"Buckets", 0}},
	} {
		c, p := waiting(t)
		refusesConfigure(t, p, changed(c, l))
		arrive(t, p, in(t, c, 0, 60), 4, "[]")
		advance(t, p, 1000, "[60S2.0/40 100S4.0/60 160S1.1/50 210S3.1/30]")
	}
	c, p := waiting(t)
	c.Key, c.Tau = "fedcba9876543210", 0
	refusesConfigure(t, p, c)
	advance(t, p, 1000, "[60S2.0/40 100S1.1/50 150S3.1/30]")
}

// The configuration that holds, once more, or with other limits that all keep: nothing happens.
func TestConfigureTheSame(t *testing.T) {
	c, p := waiting(t)
	before := see(p)
	configure(t, p, c, "[]")
	c.ECN = true
	configure(t, p, c, "[]")
	configure(t, p, changed(c, []change{{"Quantum", 1000}, {"Packets", 3}, {"Memory", 120 + 3*64}, {"Tau", 7}, {"Interval", api.MaxSpan}, {"Target", 1000}}), "[]")
	if after := see(p); after != before {
		t.Errorf("P10: %s; before: %s", after, before)
	}
}

// Buckets, Key or Length alone is another: all is flushed.
func TestEachChangeThatFlushes(t *testing.T) {
	c, _ := waiting(t)
	list := []api.Config{}
	for _, l := range [][]change{{{"Buckets", 1}}, {{"Buckets", 3}}, {{"Buckets", 16}}, {{"Length", 59}}, {{"Length", 61}}, {{"Length", 20}}, {{"Length", 200}}} {
		list = append(list, changed(c, l))
	}
	for _, k := range []string{"1" + key[1:], key[:15] + "g", "fedcba9876543210", "\x00" + key[1:], key[1:] + key[:1]} {
		x := c
		x.Key = k
		list = append(list, x)
	}
	for _, x := range list {
		_, p := waiting(t)
		advance(t, p, 7, "[]")
		l := configure(t, p, x, "[7F2.0/40 7F1.1/50 7F3.1/30]")
		if l[0].Frame != in(t, c, 0, 40) || l[1].Frame != in(t, c, 1, 50) || l[2].Frame != in(t, c, 1, 30) {
			t.Errorf("P10: the frames are not what they were: %s", full(l))
		}
		now(t, p, 7, true)
		held(t, p, 0, 0)
		counts(t, p, 4, 1, 0, 0, 0, 3, 60)
	}
}

// None of the others flushes.
func TestEachChangeThatDoesNotFlush(t *testing.T) {
	for _, l := range [][]change{
		{{"Quantum", 1}}, {{"Quantum", 1000}}, {{"Packets", 3}}, {{"Packets", 64}}, {{"Memory", 65536}}, {{"Memory", 120 + 3*64}},
		{{"Target", 1}}, {{"Target", 1}, {"Interval", 1}}, {{"Tau", 1 << 20}},
	} {
		c, p := waiting(t)
		configure(t, p, changed(c, l), "[]")
		held(t, p, 3, 120+3*64)
		backlog(t, p, 0, 1, 40)
		backlog(t, p, 1, 2, 80)
	}
	c, p := waiting(t)
	c.ECN = true
	configure(t, p, c, "[]")
	held(t, p, 3, 120+3*64)
}

// The order of Flushed events is by buckets, whatever the order was in which frames came or would have gone.
func TestOrderOfFlushed(t *testing.T) {
	c := easy()
	c.Buckets, c.Packets = 16, 64
	p := open(t, c)
	arrive(t, p, in(t, c, 8, 60), 0, "[0S0.8/60]")
	id := 1
	var by [16]string
	for round := 0; round < 3; round++ {
		for _, b := range []int{15, 3, 8, 0, 7, 15, 1} {
			n := 20 + id
			arrive(t, p, in(t, c, b, n), id, "[]")
			by[b] += fmt.Sprintf(" 5F%d.%d/%d", id, b, n)
			id++
		}
	}
	advance(t, p, 5, "[]")
	want := ""
	for b := range by {
		want += by[b]
	}
	c.Buckets = 1
	configure(t, p, c, "["+want[1:]+"]")
	counts(t, p, id, 1, 0, 0, 0, id-1, 60)
}

// The frame on the link stays till 60 whatever changes, and is neither dropped nor flushed. What is taken then is on it as long as the new Tau says.
func TestFrameOnTheLinkStays(t *testing.T) {
	for _, tau := range []int{1, 2, 50, api.MaxTau} {
		c, p := waiting(t)
		advance(t, p, 20, "[]")
		configure(t, p, changed(c, []change{{"Tau", tau}, {"Packets", 1}, {"Memory", 124}}), "[20O1.1/50 20O2.0/40]")
		advance(t, p, 39, "[]")
		now(t, p, 59, true)
		advance(t, p, 1, "[60S3.1/30]")
		advance(t, p, 30*tau-1, "[]")
		now(t, p, 60+30*tau-1, true)
		advance(t, p, 1, "[]")
		now(t, p, 60+30*tau, false)
		counts(t, p, 4, 2, 0, 2, 0, 0, 90)
	}
	for _, l := range [][]change{{{"Buckets", 1}, {"Tau", 3}}, {{"Length", 20}}, {{"Length", 20}, {"Tau", api.MaxTau}}} {
		c, p := waiting(t)
		advance(t, p, 20, "[]")
		configure(t, p, changed(c, l), "[20F2.0/40 20F1.1/50 20F3.1/30]")
		advance(t, p, 39, "[]")
		now(t, p, 59, true)
		advance(t, p, 1, "[]")
		now(t, p, 60, false)
		counts(t, p, 4, 1, 0, 0, 0, 3, 60)
	}
}

// With a longer Tau before: the frame is not sped up.
func TestFrameOnASlowLinkStays(t *testing.T) {
	c := easy()
	c.Tau = 100
	for _, buckets := range []int{1, 2} {
		p := open(t, c)
		arrive(t, p, ip(60), 0, "[0S0.0/60]")
		configure(t, p, changed(c, []change{{"Tau", 1}, {"Buckets", buckets}}), "[]")
		advance(t, p, 5999, "[]")
		now(t, p, 5999, true)
		advance(t, p, 1, "[]")
		now(t, p, 6000, false)
	}
}

// A link that is idle stays so, and takes the next frame as it arrives, by the new rules.
func TestConfigureAtAnIdleLink(t *testing.T) {
	c := easy()
	p := open(t, c)
	arrive(t, p, ip(60), 0, "[0S0.0/60]")
	advance(t, p, 100, "[]")
	for i, l := range [][]change{{{"Tau", 3}}, {{"Buckets", 16}}, {{"Length", 20}}, {{"Packets", 1}, {"Memory", 124}}} {
		configure(t, p, changed(c, l), "[]")
		now(t, p, 100+100*i, false)
		counts(t, p, 1+i, 1+i, 0, 0, 0, 0, 60+20*i)
		_, events, e := p.Arrive(ip(20))
		if e != api.OK || len(events) != 1 || events[0].Kind != api.Sent {
			t.Errorf("P10: %s, %v", show(events), e)
		}
		advance(t, p, 100, "[]")
	}
}

// After a flush the link goes idle, and the next frame, whose number goes on, is sent at once.
func TestIdleAfterFlush(t *testing.T) {
	c, p := waiting(t)
	c.Buckets = 4
	configure(t, p, c, "[0F2.0/40 0F1.1/50 0F3.1/30]")
	advance(t, p, 1000, "[]")
	now(t, p, 1000, false)
	arrive(t, p, in(t, c, 3, 60), 4, "[1000S4.3/60]")
	arrive(t, p, in(t, c, 2, 60), 5, "[]")
	advance(t, p, 60, "[1060S5.2/60]")
	counts(t, p, 6, 3, 0, 0, 0, 3, 180)
}

// A second Configure finds nothing any more to flush.
func TestFlushTwice(t *testing.T) {
	c, p := waiting(t)
	c.Buckets = 4
	configure(t, p, c, "[0F2.0/40 0F1.1/50 0F3.1/30]")
	c.Buckets = 2
	configure(t, p, c, "[]")
	now(t, p, 0, true)
}

// Buckets and Key as they were last, not as they were at first.
func TestWhatWasIsWhatHeldLast(t *testing.T) {
	first := easy()
	first.Buckets = 2
	p := open(t, first)
	arrive(t, p, in(t, first, 1, 60), 0, "[0S0.1/60]")
	for i, x := range []api.Config{
		changed(first, []change{{"Buckets", 3}}), first, changed(first, []change{{"Length", 50}}), first,
		{Buckets: 2, Quantum: 9, Packets: 9, Memory: 900, Length: 60, Target: 9, Interval: 9, Tau: 9, Key: "fedcba9876543210"}, first,
	} {
		arrive(t, p, "x", 1+i, "[]")
		if k, _ := p.Held(); k != 1 {
			t.Errorf("P10: change %d: %d frames wait", i, k)
		}
		if l, e := p.Configure(x); e != api.OK || len(l) != 1 || l[0].Kind != api.Flushed || l[0].ID != 1+i {
			t.Errorf("P10: change %d: %s, %v", i, show(l), e)
		}
	}
}

// The new Length holds for the next frame, and Backlog knows the new buckets alone.
func TestNewLengthAndBuckets(t *testing.T) {
	c := easy()
	c.Buckets = 2
	p := open(t, c)
	c.Buckets, c.Length, c.Memory = 16, 100, 400
	configure(t, p, c, "[]")
	arrive(t, p, in(t, c, 15, 100), 0, "[0S0.15/100]")
	arrive(t, p, in(t, c, 15, 100), 1, "[]")
	backlog(t, p, 15, 1, 100)
	if id, l, e := p.Arrive(filled(0, 101)); id != -1 || l != nil || e != api.ErrLong {
		t.Errorf("P4: %d, %s, %v", id, full(l), e)
	}
	c.Buckets, c.Length = 3, 20
	configure(t, p, c, "[0F1.15/100]")
	for b := -1; b <= 17; b++ {
		backlog(t, p, b, 0, 0)
	}
	if id, l, e := p.Arrive(filled(0, 21)); id != -1 || l != nil || e != api.ErrLong {
		t.Errorf("P4: %d, %s, %v", id, full(l), e)
	}
	arrive(t, p, in(t, c, 2, 20), 2, "[]")
	backlog(t, p, 2, 1, 20)
}

// The new Key places the next frames.
func TestNewKeyPlaces(t *testing.T) {
	c := easy()
	c.Buckets, c.Packets = 16, 64
	p := open(t, c)
	p.Arrive("on the link")
	for _, c.Key = range []string{"fedcba9876543210", key, "\x00123456789abcdef", key[:15] + "\xff"} {
		p.Configure(c)
		for i := 0; i < 40; i++ {
			p.Arrive(variant(i, 20))
		}
		var want [16]int
		for i := 0; i < 40; i++ {
			want[modelBucket(c, variant(i, 20))]++
		}
		for b, n := range want {
			backlog(t, p, b, n, 20*n)
		}
	}
}

// The end of time, with a frame on the link that goes beyond it.
func TestConfigureAtTheEndOfTime(t *testing.T) {
	c := easy()
	p := open(t, c)
	p.Advance(api.MaxTime - 1)
	p.Arrive(ip(60))
	p.Arrive(ip(50))
	advance(t, p, 1, "[]")
	configure(t, p, changed(c, []change{{"Tau", api.MaxTau}, {"Quantum", 1}}), "[]")
	want := fmt.Sprintf("[%dF1.0/50]", api.MaxTime)
	configure(t, p, changed(c, []change{{"Buckets", 2}}), want)
	now(t, p, api.MaxTime, true)
	if l, e := p.Advance(1); l != nil || e != api.ErrClock {
		t.Errorf("P5: %s, %v", full(l), e)
	}
}
