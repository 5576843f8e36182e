package port_test

import (
	"testing"

	"fairlink/api"
	"fairlink/port"
)

// The lists are empty while the frame on the link still is: its bucket, which had used up its deficit, comes in as any other, with a whole Quantum.
func TestNoListAfterFlush(t *testing.T) {
	for _, byReset := range []bool{false, true} {
		l := four(t, 20)
		l.goes(1, 60)
		l.waits(1, 20)
		l.waits(3, 20)
		if byReset {
			reset(t, l.p, key, "[0F1.1/20 0F2.3/20]")
		} else {
			l.c.Length = 61
			configure(t, l.p, l.c, "[0F1.1/20 0F2.3/20]")
		}
		l.waits(2, 20)
		l.waits(2, 20)
		l.waits(1, 20)
		l.waits(1, 20)
		l.waits(3, 20)
		l.later(1000, "[60S3.2/20 80S5.1/20 100S7.3/20 120S4.2/20 140S6.1/20]")
	}
}

// An old list is empty afterwards, too.
func TestNoOldListAfterFlush(t *testing.T) {
	l := four(t, 60)
	l.goes(1, 60)
	for _, b := range []int{2, 3, 1, 2, 3} {
		l.waits(b, 60)
	}
	l.later(200, "[60S1.2/60 120S2.3/60 180S3.1/60]") // all stand in the old list, or are about to
	l.c.Length = 61
	configure(t, l.p, l.c, "[200F4.2/60 200F5.3/60]")
	for _, b := range []int{3, 2, 1, 3} {
		l.waits(b, 60)
	}
	l.later(1000, "[240S6.3/60 300S7.2/60 360S8.1/60 420S9.3/60]")
}

// ABOVE was 260: it is nothing afterwards, and becomes 320 at 120.
func TestNoAboveAfterFlush(t *testing.T) {
	p := atOnce(t, tuned(change{"Target", 1}), times(4, 60)...)
	advance(t, p, 100, "[60S1.0/60]")
	configure(t, p, tuned(change{"Target", 1}, change{"Length", 61}), "[100F2.0/60 100F3.0/60]")
	for id := 4; id < 16; id++ {
		arrive(t, p, ip(60), id, "[]")
	}
	advance(t, p, 240, "[120S4.0/60 180S5.0/60 240S6.0/60 300S7.0/60]")
	advance(t, p, 20, "[360D8.0/60 360S9.0/60]")
}

// It was DROPPING, and the next drop was due at 500: it is not, and begins from nothing.
func TestNoDroppingAfterFlush(t *testing.T) {
	for _, byReset := range []bool{false, true} {
		p := spent(t, true)
		c := tuned(change{"Target", 1})
		configure(t, p, c, "[]")
		var l []api.Event
		if byReset {
			l, _ = p.Reset(key)
		} else {
			l, _ = p.Configure(changed(c, []change{{"Length", 61}}))
		}
		if len(l) != 13 {
			t.Fatalf("P10, P11: %s", show(l))
		}
		for id := 20; id < 40; id++ {
			arrive(t, p, ip(60), id, "[]")
		}
		// ABOVE becomes 560 at 360; from 600 on it is DROPPING, and NEXT is 800.
		advance(t, p, 250, "[360S20.0/60 420S21.0/60 480S22.0/60 540S23.0/60]")
		advance(t, p, 240, "[600D24.0/60 600S25.0/60 660S26.0/60 720S27.0/60 780S28.0/60]")
		advance(t, p, 60, "[840D29.0/60 840S30.0/60]")
	}
}

// It had counted some drops: it counts from 1 again, though NEXT is not far behind.
func TestNoCountAfterFlush(t *testing.T) {
	for _, flush := range []bool{false, true} {
		c := hurried()
		c.Length, c.Target, c.Interval = 20, 1, 1000
		w := pair(t, c, nil)
		crowd(w, ip(20), 5)
		if flush {
			w.reset(key)
		}
		before := len(w.m.events)
		crowd(w, ip(20), 3)
		late := lateOnes(w.m.events[before:])
		// The steps for 1 and 2 are 1000 and 707, those for 4 and 5 are 500 and 447; the link takes a frame each 20.
		first, second := late[1]-late[0], late[2]-late[1]
		if flush && (first != 1000 || second != 720) || !flush && (first != 500 || second != 460) {
			t.Errorf("P9, P10: flush %v: dropped at %v", flush, late)
		}
	}
}

// shifted is events as they would be of a port that began at such a time and number.
func shifted(l []api.Event, at, id int) []api.Event {
	var list []api.Event
	for _, e := range l {
		e.At -= at
		e.ID -= id
		list = append(list, e)
	}
	return list
}

// alike makes random calls to a port that has been renewed, and to a new one.
func alike(t *testing.T, d *dice, p, fresh *port.Port, c api.Config) {
	t.Helper()
	at, _ := p.Now()
	id := p.Counts()[0]
	for i := 0; i < 150; i++ {
		if d.roll(3) > 0 {
			f := randomFrame(d, c.Length)
			n, got, _ := p.Arrive(f)
			want, list, _ := fresh.Arrive(f)
			if n-id != want || full(shifted(got, at, id)) != full(list) {
				t.Fatalf("P10, P11: %+v: %d, %s; a new port: %d, %s", c, n-id, show(shifted(got, at, id)), want, show(list))
			}
			continue
		}
		units := d.roll(c.Length * c.Tau * 2)
		got, _ := p.Advance(units)
		want, _ := fresh.Advance(units)
		if full(shifted(got, at, id)) != full(want) {
			t.Fatalf("P10, P11: %+v: %s; a new port: %s", c, show(shifted(got, at, id)), show(want))
		}
	}
	for b := -1; b <= api.MaxBuckets; b++ {
		k, sum := fresh.Backlog(b)
		backlog(t, p, b, k, sum)
	}
}

// Once the link is idle, a port whose buckets are new does all that a new port does.
func TestRenewedPortIsAsANewOne(t *testing.T) {
	d := &dice{7}
	for round := 0; round < 400; round++ {
		w := pair(t, brisk(d), nil)
		playRandom(d, w, 150)
		c := brisk(d)
		if round%2 == 0 {
			w.p.Configure(c)
		} else {
			c = w.m.c
			c.Key = string(randomBytes(d, api.KeyLen))
			w.p.Reset(c.Key)
		}
		w.p.Advance(api.MaxLen * 2)
		now(t, w.p, w.m.now+api.MaxLen*2, false)
		alike(t, d, w.p, open(t, c), c)
	}
}
