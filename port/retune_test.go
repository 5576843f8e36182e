package port_test

import (
	"fmt"
	"testing"

	"fairlink/api"
	"fairlink/port"
)

// retune changes the Quantum of a port of four buckets.
func (l *lines) retune(quantum int) {
	l.t.Helper()
	l.c.Quantum = quantum
	configure(l.t, l.p, l.c, "[]")
}

// A deficit above the new Quantum becomes just that; one that is as great or below stays, and does not grow. Of frames of 20 bytes a deficit of 60 lets three go, one of 61 four.
func TestDeficitAndNewQuantum(t *testing.T) {
	const three = "[60S1.1/20 80S2.1/20 100S3.1/20 120S6.2/20]"
	const four4 = "[60S1.1/20 80S2.1/20 100S3.1/20 120S4.1/20]"
	for _, x := range []struct {
		was, quantum int
		want         string
	}{
		{61, 61, four4}, {61, 60, three}, {100, 60, three}, {1000, 60, three}, {1000, 61, four4}, {62, 61, four4},
		{60, 60, three}, {60, 61, three}, {60, 62, three}, {60, 1000, three}, {61, 62, four4}, {61, 1000, four4},
		{61, 1, "[60S1.1/20 80S6.2/20]"}, {61, 20, "[60S1.1/20 80S6.2/20]"}, {61, 21, "[60S1.1/20 80S2.1/20 100S6.2/20]"},
	} {
		l := four(t, x.was)
		l.goes(0, 60)
		for i := 0; i < 5; i++ {
			l.waits(1, 20)
		}
		for i := 0; i < 5; i++ {
			l.waits(2, 20)
		}
		l.retune(x.quantum)
		events, _ := l.p.Advance(120)
		if got := show(events); len(got) < len(x.want) || got[:len(x.want)-1] != x.want[:len(x.want)-1] {
			t.Errorf("P10: Quantum %d, then %d: %s; want %s", x.was, x.quantum, got, x.want)
		}
	}
}

// A deficit below 0 stays what it is, and grows by the new Quantum.
func TestDeficitBelowNothingAndNewQuantum(t *testing.T) {
	for _, x := range []struct {
		quantum int
		want    string
	}{
		{15, "[60S2.2/20 80S3.2/20 100S4.2/20 120S1.1/20 140S5.2/20]"}, // of bucket 1: -40, -25, -10, 5
		{20, "[60S2.2/20 80S3.2/20 100S4.2/20 120S1.1/20 140S5.2/20]"}, // -40, -20, 0, 20
		{40, "[60S2.2/20 80S3.2/20 100S4.2/20 120S1.1/20 140S5.2/20]"}, // -40, 0, 40
		{41, "[60S2.2/20 80S1.1/20 100S3.2/20 120S4.2/20 140S5.2/20]"}, // -40, 1
		{100, "[60S2.2/20 80S1.1/20 100S3.2/20 120S4.2/20 140S5.2/20]"},
	} {
		l := four(t, 20)
		l.goes(1, 60)
		l.waits(1, 20)
		for i := 0; i < 4; i++ {
			l.waits(2, 20)
		}
		l.retune(x.quantum)
		l.later(1000, x.want)
	}
}

// A bucket of the old list is cut down just so.
func TestDeficitOfAnOldBucketAndNewQuantum(t *testing.T) {
	l := four(t, 60)
	l.goes(1, 60)
	for i := 0; i < 4; i++ {
		l.waits(1, 20)
	}
	for i := 0; i < 2; i++ {
		l.waits(2, 60)
	}
	l.later(60, "[60S5.2/60]") // bucket 1 has 60 now, in the old list
	l.retune(20)
	l.later(1000, "[120S1.1/20 140S6.2/60 200S2.1/20 220S3.1/20 240S4.1/20]")
}

// One that was emptied by drops, and stands in a list still, is cut down too.
func TestDeficitOfAnEmptyBucketAndNewQuantum(t *testing.T) {
	for _, x := range []struct {
		quantum int
		want    string
	}{{100, "[60S4.1/20 80S5.1/20 100S6.1/20 120S2.2/20 140S3.3/20]"}, {20, "[60S4.1/20 80S2.2/20 100S3.3/20 120S5.1/20 140S6.1/20]"}} {
		c := easy()
		c.Buckets, c.Quantum, c.Packets = 4, 100, 2
		p := open(t, c)
		arrive(t, p, in(t, c, 0, 60), 0, "[0S0.0/60]")
		arrive(t, p, in(t, c, 1, 60), 1, "[]")
		arrive(t, p, in(t, c, 2, 20), 2, "[]")
		arrive(t, p, in(t, c, 3, 20), 3, "[0O1.1/60]")
		backlog(t, p, 1, 0, 0)
		c.Quantum, c.Packets = x.quantum, 20
		configure(t, p, c, "[]")
		for id := 4; id <= 6; id++ {
			arrive(t, p, in(t, c, 1, 20), id, "[]")
		}
		advance(t, p, 1000, x.want)
	}
}

// What was cut off does not come back.
func TestQuantumDownAndUp(t *testing.T) {
	l := four(t, 100)
	l.goes(0, 60)
	for i := 0; i < 3; i++ {
		l.waits(1, 20)
	}
	l.waits(2, 20)
	l.retune(10)
	l.retune(100)
	l.waits(3, 20)
	l.later(1000, "[60S1.1/20 80S4.2/20 100S5.3/20 120S2.1/20 140S3.1/20]")
}

// A bucket that comes into the new list afterwards has the new Quantum.
func TestNewBucketsHaveTheNewQuantum(t *testing.T) {
	l := four(t, 100)
	l.goes(0, 60)
	l.retune(20)
	l.waits(1, 20)
	l.waits(1, 20)
	l.waits(2, 20)
	l.later(1000, "[60S1.1/20 80S3.2/20 100S2.1/20]")
}

// As much as may wait just stays; with one less, frames are dropped, of the fullest bucket the first.
func TestLessRoom(t *testing.T) {
	const all = 120 + 3*api.Over
	for _, x := range []struct {
		packets, memory int
		want            string
	}{
		{3, all, "[]"}, {2, all, "[0O1.1/50]"}, {1, all, "[0O1.1/50 0O2.0/40]"},
		{3, all - 1, "[0O1.1/50]"}, {3, all - 50 - api.Over, "[0O1.1/50]"}, {3, all - 50 - api.Over - 1, "[0O1.1/50 0O2.0/40]"}, {3, 124, "[0O1.1/50 0O2.0/40]"},
		{2, all - 1, "[0O1.1/50]"}, {2, 124, "[0O1.1/50 0O2.0/40]"}, {1, 124, "[0O1.1/50 0O2.0/40]"}, {64, api.MaxMemory, "[]"},
	} {
		c, p := waiting(t)
		configure(t, p, changed(c, []change{{"Packets", x.packets}, {"Memory", x.memory}}), x.want)
		now(t, p, 0, true)
	}
}

// The events tell all of the dropped frames, and the counts go on.
func TestDroppedForLessRoom(t *testing.T) {
	c, p := waiting(t)
	frame := in(t, c, 1, 50)
	advance(t, p, 9, "[]")
	c.Packets = 2
	l := configure(t, p, c, "[9O1.1/50]")
	if want := (api.Event{At: 9, Kind: api.Overload, ID: 1, Bucket: 1, Frame: frame}); l[0] != want {
		t.Errorf("P10: %v; want %v", l[0], want)
	}
	held(t, p, 2, 70+2*api.Over)
	backlog(t, p, 0, 1, 40)
	backlog(t, p, 1, 1, 30)
	counts(t, p, 4, 1, 0, 1, 0, 0, 60)
	arrive(t, p, in(t, c, 0, 20), 4, "[9O2.0/40]") // the new limit holds from now on
	advance(t, p, 1000, "[60S4.0/20 80S3.1/30]")
	counts(t, p, 5, 3, 0, 2, 0, 0, 110)
}

// Of buckets with as many bytes the one of the least number comes first, whichever was filled first.
func TestLessRoomAmongEquals(t *testing.T) {
	l := four(t, 60)
	l.goes(0, 60)
	for _, b := range []int{3, 1, 2, 3, 1, 2} {
		l.waits(b, 30)
	}
	l.c.Packets = 2
	configure(t, l.p, l.c, "[0O2.1/30 0O3.2/30 0O1.3/30 0O5.1/30]")
	l.later(1000, "[60S4.3/30 90S6.2/30]")
}

// A bucket that is emptied so stays where it stands in its list.
func TestEmptiedForLessRoomStaysInItsList(t *testing.T) {
	l := four(t, 60)
	l.goes(0, 60)
	l.waits(1, 60)
	l.waits(2, 20)
	l.waits(3, 20)
	l.c.Packets = 2
	configure(t, l.p, l.c, "[0O1.1/60]")
	l.c.Packets = 20
	configure(t, l.p, l.c, "[]")
	l.waits(1, 20)
	l.later(1000, "[60S4.1/20 80S2.2/20 100S3.3/20]")
}

// spent is a port of which the bucket has ABOVE 260, or, a while later, is DROPPING with NEXT 500.
func spent(t *testing.T, dropping bool) *port.Port {
	t.Helper()
	p := atOnce(t, hurried(), times(20, 60)...)
	advance(t, p, 100, "[60S1.0/60]")
	if dropping {
		advance(t, p, 210, "[120S2.0/60 180S3.0/60 240S4.0/60 300D5.0/60 300S6.0/60]")
	}
	return p
}

// tuned is the configuration of spent with changes.
func tuned(l ...change) api.Config {
	return changed(hurried(), l)
}

// A bucket of which frames are dropped for less room remembers what it did.
func TestLessRoomLeavesWhatIsRemembered(t *testing.T) {
	for _, c := range []api.Config{tuned(change{"Packets", 16}), tuned(change{"Memory", 16*124 + 123})} {
		p := spent(t, false)
		configure(t, p, c, "[100O2.0/60 100O3.0/60]")
		advance(t, p, 200, "[120S4.0/60 180S5.0/60 240S6.0/60 300D7.0/60 300S8.0/60]")
	}
	for _, c := range []api.Config{tuned(change{"Packets", 11}), tuned(change{"Memory", 11 * 124})} {
		p := spent(t, true)
		configure(t, p, c, "[310O7.0/60 310O8.0/60]")
		advance(t, p, 180, "[360S9.0/60 420S10.0/60 480S11.0/60]")
		advance(t, p, 60, "[540D12.0/60 540S13.0/60]")
		advance(t, p, 120, "[600S14.0/60 660D15.0/60 660S16.0/60]") // NEXT was 641
	}
}

// The same, with nothing dropped.
func TestConfigureLeavesWhatIsRemembered(t *testing.T) {
	p := spent(t, false)
	configure(t, p, tuned(change{"Quantum", 1}, change{"Tau", 1}), "[]")
	advance(t, p, 200, "[120S2.0/60 180S3.0/60 240S4.0/60 300D5.0/60 300S6.0/60]")
	p = spent(t, true)
	configure(t, p, tuned(change{"Quantum", 1000}), "[]")
	advance(t, p, 230, "[360S7.0/60 420S8.0/60 480S9.0/60 540D10.0/60 540S11.0/60]")
	configure(t, p, tuned(), "[]")
	advance(t, p, 120, "[600S12.0/60 660D13.0/60 660S14.0/60]")
}

// ABOVE and NEXT stay the times that they are; the new Interval makes those that come.
func TestNewInterval(t *testing.T) {
	for _, interval := range []int{50, 100, 1000, api.MaxSpan} {
		p := spent(t, false)
		configure(t, p, tuned(change{"Interval", interval}), "[]")
		advance(t, p, 200, "[120S2.0/60 180S3.0/60 240S4.0/60 300D5.0/60 300S6.0/60]")
	}
	p := spent(t, true)
	configure(t, p, tuned(change{"Interval", 100}), "[]")
	// NEXT is 500, then 570, 627, 677, 721.
	advance(t, p, 230, "[360S7.0/60 420S8.0/60 480S9.0/60 540D10.0/60 540S11.0/60]")
	advance(t, p, 120, "[600D12.0/60 600S13.0/60 660D14.0/60 660S15.0/60]")
	p = spent(t, true)
	configure(t, p, tuned(change{"Interval", 300}), "[]")
	// NEXT is 500, then 712.
	advance(t, p, 1000, "[360S7.0/60 420S8.0/60 480S9.0/60 540D10.0/60 540S11.0/60 600S12.0/60 660S13.0/60 720D14.0/60 720S15.0/60 780S16.0/60 840S17.0/60 900S18.0/60 960S19.0/60]")
}

// The new Target holds for frames that wait already: their time counts from their arrival.
func TestNewTarget(t *testing.T) {
	for _, x := range []struct {
		target int
		want   string
	}{{119, "[300D5.0/60 300S6.0/60]"}, {120, "[300D5.0/60 300S6.0/60]"}, {121, "[300S5.0/60]"}} {
		p := spent(t, false)
		configure(t, p, tuned(change{"Target", x.target}), "[]")
		advance(t, p, 199, "[120S2.0/60 180S3.0/60 240S4.0/60]")
		advance(t, p, 1, x.want)
	}
	// The other way: from none that had waited long enough to one that has.
	p := atOnce(t, tuned(change{"Target", 200}), times(20, 60)...)
	advance(t, p, 100, "[60S1.0/60]")
	configure(t, p, tuned(change{"Target", 120}), "[]")
	advance(t, p, 300, "[120S2.0/60 180S3.0/60 240S4.0/60 300S5.0/60 360D6.0/60 360S7.0/60]")
}

// Marks instead of drops, or the other way, from now on.
func TestNewECN(t *testing.T) {
	for _, set := range []bool{false, true} {
		c := hurried()
		c.ECN = set
		p := open(t, c)
		for i := 0; i < 12; i++ {
			p.Arrive(ecn(1, 60))
		}
		p.Advance(299)
		c.ECN = !set
		configure(t, p, c, "[]")
		want := "[300M5.0/60]"
		if set {
			want = "[300D5.0/60 300S6.0/60]"
		}
		advance(t, p, 1, want)
	}
}

// With a shorter Interval a bucket can begin to drop again before NEXT, or just then: it goes on with its count, as it does later.
func TestNextStillToCome(t *testing.T) {
	edges := map[string]int{}
	for _, later := range []int{-1000, -1, 0, 1} {
		c := hurried()
		c.Length, c.Target, c.Interval = 20, 1, 10000
		w := pair(t, c, edges)
		crowd(w, ip(20), 3)
		c.Interval = 100
		w.configure(c)
		begin := w.m.minds[0].next + later
		w.advance(begin - 120 - w.m.now)
		before := len(w.m.events)
		crowd(w, ip(20), 2)
		// The step for a count of 2 is 70, for one of 1 it would be 100; the link takes a frame each 20.
		if got, want := fmt.Sprint(lateOnes(w.m.events[before:])), fmt.Sprint([]int{begin, begin + 80}); got[:len(want)-1] != want[:len(want)-1] {
			t.Errorf("P9: dropped at %s; want %s", got, want)
		}
	}
	for _, n := range []int{-1, 0, 1} {
		if edges[fmt.Sprint("now less NEXT ", n)] == 0 {
			t.Errorf("these runs met the edges %v", edges)
		}
	}
}
