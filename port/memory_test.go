package port_test

import (
	"testing"

	"fairlink/api"
)

// crowd keeps some frames waiting till so many have been dropped or marked, and then lets all go out.
func crowd(w twins, frame string, drops int) {
	w.t.Helper()
	long := len(frame) * w.m.c.Tau
	start := len(w.m.events)
	for done := 0; done < drops; {
		feedTwins(w, frame)
		w.advance(10 * long)
		done = 0
		for _, e := range w.m.events[start:] {
			if e.Kind == api.Delayed || e.Kind == api.Marked {
				done++
			}
		}
	}
	w.advance(65 * long)
	w.look()
}

func feedTwins(w twins, frame string) {
	w.t.Helper()
	for k, _ := w.m.held(); k < 24; k++ {
		w.arrive(frame)
	}
}

// aimed lets a bucket drop some frames, rest, and begin to drop again just when it is 16 times Interval behind NEXT, or so many units later. Whether it remembers its count tells NEXT to the unit, and with it the sum of all steps, however great they are.
func aimed(t *testing.T, c api.Config, frame string, drops, later int, edges map[string]int) {
	t.Helper()
	w := pair(t, c, edges)
	crowd(w, frame, drops)
	long := len(frame) * c.Tau
	// The first frame sets out at once, the second sets ABOVE, and the first that the link takes at ABOVE or later is dropped.
	offset := long + (c.Interval+long-1)/long*long
	begin := w.m.minds[0].next + 16*c.Interval + later
	w.advance(begin - offset - w.m.now)
	crowd(w, frame, 3)
}

func TestSixteenIntervalsBehindNext(t *testing.T) {
	edges := map[string]int{}
	for _, x := range []struct{ interval, tau, drops int }{
		{200, 1, 3}, {777, 1, 3}, {1000, 2, 8}, {65536, 20, 5}, {1<<31 + 1, 1 << 19, 4}, {1<<32 - 1, 1 << 20, 5}, {1 << 32, 1 << 20, 5}, {1<<32 + 1, 1<<20 - 1, 5},
		{3037000500, 1 << 20, 3}, {6074001000, 1 << 20, 3}, {1<<36 - 12345, 1<<20 - 3, 6}, {1 << 37, 1 << 20, 40},
	} {
		for later := -1; later <= 1; later++ {
			c := hurried()
			c.Length, c.Target, c.Interval, c.Tau = 200, 1, x.interval, x.tau
			n := 20
			if x.interval >= 1<<36 {
				n = 200
			}
			if x.interval < 10000 {
				c.Length, n = 20, 20
			}
			aimed(t, c, ip(n), x.drops, later, edges)
			c.ECN = true
			aimed(t, c, ecn(1, n), x.drops, later, edges)
		}
	}
	for _, edge := range []string{"-1", "0", "1"} {
		often(t, edges, "now less NEXT less 16 Interval "+edge)
	}
}

// The greatest Interval: its square has 81 bits.
func TestGreatestInterval(t *testing.T) {
	edges := map[string]int{}
	for later := -1; later <= 0; later++ {
		c := hurried()
		c.Length, c.Target, c.Interval, c.Tau = 200, 1, api.MaxSpan, api.MaxTau
		aimed(t, c, ip(200), 3, later, edges)
	}
	if edges["now less NEXT less 16 Interval -1"] == 0 || edges["now less NEXT less 16 Interval 0"] == 0 {
		t.Errorf("these runs met the edges %v", edges)
	}
}
