package port_test

import (
	"fmt"
	"testing"

	"fairlink/api"
	"fairlink/port"
)

// lines is a port of four buckets, to which frames are handed by their buckets.
type lines struct {
	t  *testing.T
	c  api.Config
	p  *port.Port
	id int
}

func four(t *testing.T, quantum int) *lines {
	t.Helper()
	c := easy()
	c.Buckets, c.Quantum = 4, quantum
	return &lines{t, c, open(t, c), 0}
}

// waits lets a frame of n bytes arrive in a bucket; it is not sent at once.
func (l *lines) waits(b, n int) {
	l.t.Helper()
	arrive(l.t, l.p, in(l.t, l.c, b, n), l.id, "[]")
	l.id++
}

// goes lets one arrive at an idle link.
func (l *lines) goes(b, n int) {
	l.t.Helper()
	at, _ := l.p.Now()
	arrive(l.t, l.p, in(l.t, l.c, b, n), l.id, fmt.Sprintf("[%dS%d.%d/%d]", at, l.id, b, n))
	l.id++
}

func (l *lines) later(n int, want string) {
	l.t.Helper()
	advance(l.t, l.p, n, want)
}

// Buckets that have used up their deficits take turns.
func TestBucketsTakeTurns(t *testing.T) {
	l := four(t, 60)
	l.goes(1, 60)
	for _, b := range []int{1, 1, 2, 2, 0, 0} {
		l.waits(b, 60)
	}
	l.later(400, "[60S3.2/60 120S5.0/60 180S1.1/60 240S4.2/60 300S6.0/60 360S2.1/60]")
}

// A bucket that sends short frames sends more of them in a turn, till its deficit is not above 0.
func TestTurnsAreOfBytes(t *testing.T) {
	l := four(t, 60)
	l.goes(0, 60)
	for i := 0; i < 5; i++ {
		l.waits(1, 25)
	}
	for i := 0; i < 3; i++ {
		l.waits(2, 60)
	}
	// Of bucket 1: 60, 35, 10, -15; then 45, 20, -5.
	l.later(1000, "[60S1.1/25 85S2.1/25 110S3.1/25 135S6.2/60 195S4.1/25 220S5.1/25 245S7.2/60 305S8.2/60]")
}

// At a deficit of 1 a bucket still gives up a frame; at 0 it does not.
func TestDeficitAtNothing(t *testing.T) {
	for _, x := range []struct {
		quantum int
		want    string
	}{
		{59, "[60S2.2/20 80S1.1/20]"},
		{60, "[60S2.2/20 80S1.1/20]"},
		{61, "[60S1.1/20 80S2.2/20]"},
	} {
		l := four(t, x.quantum)
		l.goes(1, 60)
		l.waits(1, 20)
		l.waits(2, 20)
		l.later(1000, x.want)
	}
}

// A deficit below 0 is made good quantum by quantum, each time at the end of the old list.
func TestDeficitBelowNothing(t *testing.T) {
	l := four(t, 20)
	l.goes(1, 60)
	l.waits(1, 60)
	for i := 0; i < 4; i++ {
		l.waits(2, 20)
	}
	// Bucket 1 has -40, then -20, 0, and at last 20.
	l.later(1000, "[60S2.2/20 80S3.2/20 100S4.2/20 120S1.1/60 180S5.2/20]")
}

func TestLeastQuantumAndLongestFrames(t *testing.T) {
	c := easy()
	c.Buckets, c.Quantum, c.Length = 16, 1, 200
	p := open(t, c)
	want := ""
	for b := 0; b < 16; b++ {
		p.Arrive(in(t, c, b, 200))
		if b > 0 {
			want += fmt.Sprintf(" %dS%d.%d/200", b*200, b, b)
		}
	}
	advance(t, p, 16*200, "["+want[1:]+"]")
	arrive(t, p, in(t, c, 5, 200), 16, "[3200S16.5/200]")
	arrive(t, p, in(t, c, 6, 199), 17, "[]")
	arrive(t, p, in(t, c, 5, 1), 18, "[]")
	arrive(t, p, in(t, c, 6, 1), 19, "[]")
	advance(t, p, 1000, "[3400S17.6/199 3599S19.6/1 3600S18.5/1]")
}

// A bucket that was in no list comes before all that have had a turn, and has a whole quantum.
func TestNewBucketsComeFirst(t *testing.T) {
	l := four(t, 60)
	l.goes(1, 60)
	for i := 0; i < 4; i++ {
		l.waits(1, 60)
	}
	l.later(60, "[60S1.1/60]")
	l.waits(3, 30)
	l.waits(2, 60)
	l.waits(3, 30)
	l.waits(3, 60)
	l.later(60, "[120S5.3/30]")
	l.later(30, "[150S7.3/30]")
	l.later(30, "[180S6.2/60]")
	l.later(60, "[240S8.3/60]") // bucket 1 has used up its deficit too, and goes behind
	l.later(60, "[300S2.1/60]")
	l.later(60, "[360S3.1/60]")
}

// A new bucket whose frames are gone goes through the old list, if that is not empty: frames that come there meanwhile do not make it new again, and it keeps what deficit it has.
func TestEmptyNewBucketBecomesOld(t *testing.T) {
	l := four(t, 60)
	l.goes(1, 60)
	for i := 0; i < 4; i++ {
		l.waits(1, 30)
	}
	l.later(60, "[60S1.1/30]")
	l.waits(2, 20)
	l.later(30, "[90S5.2/20]")
	l.later(20, "[110S2.1/30]") // bucket 2 has none: it goes to the old list, behind bucket 1
	l.waits(2, 50)
	l.waits(2, 20)
	l.later(30, "[140S6.2/50]") // bucket 1 has 0, and goes behind bucket 2, which has the 40 that it had left
	l.later(50, "[190S3.1/30]")
	l.later(30, "[220S4.1/30]")
	l.later(30, "[250S7.2/20]")
}

// A new bucket whose frames are gone while the old list is empty stands in none: it comes in anew.
func TestEmptyNewBucketLeaves(t *testing.T) {
	l := four(t, 60)
	l.goes(1, 20)
	l.later(20, "[]")
	l.goes(1, 40) // with 20 of the old deficit it would not come before bucket 2 any more
	l.waits(2, 30)
	l.waits(1, 30)
	l.later(40, "[60S3.1/30]")
	l.later(30, "[90S2.2/30]")
}

// One that is new, with others behind it in the new list alone, leaves: the old list is empty.
func TestEmptyNewBucketLeavesBeforeOtherNewOnes(t *testing.T) {
	l := four(t, 60)
	l.goes(1, 20)
	l.waits(2, 20)
	l.waits(2, 20)
	l.waits(3, 60)
	l.later(20, "[20S1.2/20]") // bucket 1 has none, and stands in no list
	l.waits(1, 60)             // it comes in anew, behind bucket 3
	l.later(20, "[40S2.2/20]")
	l.later(20, "[60S3.3/60]")
	l.later(60, "[120S4.1/60]")
	l.later(60, "[]")
}

// An old bucket whose frames are gone stands in no list: with its next frame it is new.
func TestEmptyOldBucketLeaves(t *testing.T) {
	l := four(t, 60)
	l.goes(1, 60)
	l.waits(1, 30)
	l.waits(2, 60)
	for i := 0; i < 5; i++ {
		l.waits(2, 60)
	}
	l.later(60, "[60S2.2/60]")
	l.later(60, "[120S1.1/30]")
	l.later(30, "[150S3.2/60]") // bucket 1 has none, and leaves the old list
	l.waits(1, 60)
	l.later(60, "[210S8.1/60]")
	l.later(60, "[270S4.2/60]")
}

// A bucket that was emptied by drops stays where it stands till its turn comes.
func TestBucketEmptiedByDropsStaysInItsList(t *testing.T) {
	c := easy()
	c.Buckets, c.Quantum, c.Packets = 4, 60, 3
	p := open(t, c)
	arrive(t, p, in(t, c, 0, 60), 0, "[0S0.0/60]")
	arrive(t, p, in(t, c, 1, 60), 1, "[]")
	arrive(t, p, in(t, c, 2, 20), 2, "[]")
	arrive(t, p, in(t, c, 3, 20), 3, "[]")
	arrive(t, p, in(t, c, 2, 20), 4, "[0O1.1/60]")
	arrive(t, p, in(t, c, 1, 10), 5, "[0O2.2/20]")
	advance(t, p, 60, "[60S5.1/10]")
	advance(t, p, 10, "[70S4.2/20]")
	advance(t, p, 20, "[90S3.3/20]")
}

// A frame that is dropped as it comes puts its bucket into the new list all the same; a bucket that goes from there to the old list is no longer new for the next.
func TestBucketOfADroppedFrameIsListed(t *testing.T) {
	c := easy()
	c.Buckets, c.Quantum, c.Packets = 4, 20, 2
	p := open(t, c)
	arrive(t, p, in(t, c, 0, 30), 0, "[0S0.0/30]")
	arrive(t, p, in(t, c, 1, 20), 1, "[]")
	arrive(t, p, in(t, c, 2, 20), 2, "[]")
	arrive(t, p, in(t, c, 3, 60), 3, "[0O3.3/60]")
	advance(t, p, 30, "[30S1.1/20]")
	arrive(t, p, in(t, c, 1, 20), 4, "[]")
	advance(t, p, 20, "[50S2.2/20]")
	arrive(t, p, in(t, c, 2, 20), 5, "[]")
	// Bucket 3 has gone to the old list, as 0, 1 and 2 stand there when its turn comes.
	advance(t, p, 20, "[70S4.1/20]")
	arrive(t, p, in(t, c, 3, 20), 6, "[]")
	advance(t, p, 20, "[90S5.2/20]")
	advance(t, p, 20, "[110S6.3/20]")
}

// Frames that are refused leave the lists as they are.
func TestRefusedFramesEnterNoList(t *testing.T) {
	l := four(t, 60)
	l.goes(1, 60)
	l.waits(2, 60)
	long := in(t, l.c, 3, 60) + "x"
	for i := 0; i < 3; i++ {
		if id, events, e := l.p.Arrive(long); id != -1 || events != nil || e != api.ErrLong {
			t.Errorf("P4: %d, %s, %v", id, full(events), e)
		}
	}
	l.waits(0, 60)
	l.waits(3, 60)
	l.later(1000, "[60S1.2/60 120S2.0/60 180S3.3/60]")
}

// Two flows that send all the time get the same share in bytes, whatever the lengths of their frames are.
func TestSharesAreFair(t *testing.T) {
	l := four(t, 60)
	sent := [4]int{}
	for at := 0; at < 6000; at += 10 {
		for b, n := range []int{60, 20, 47, 33} {
			if k, _ := l.p.Backlog(b); k < 4 {
				_, events, _ := l.p.Arrive(in(t, l.c, b, n))
				note(&sent, events)
			}
		}
		events, _ := l.p.Advance(10)
		note(&sent, events)
	}
	for b := range sent {
		if sent[b] < 1400 || sent[b] > 1600 {
			t.Errorf("P8: bucket %d sent %d of some 6000 bytes", b, sent[b])
		}
	}
}

func note(sent *[4]int, events []api.Event) {
	for _, e := range events {
		sent[e.Bucket] += len(e.Frame)
	}
}
