package bucket

import (
	"testing"

	"fairlink/api"
	"fairlink/queue"
)

// A count above 2^32 - 1 has the step of 2^32 - 1; it is itself not cut. No test could count so far, so the bucket is made as if it had.
func TestCountsBeyondTheGreatest(t *testing.T) {
	for _, x := range []struct{ interval, count, step int }{
		{1<<33 - 2, 1<<32 - 3, 131072}, {1<<33 - 2, 1<<32 - 2, 131071}, {1<<33 - 2, 1<<32 - 1, 131071}, {1<<33 - 2, 1 << 32, 131071},
		{1 << 40, 1<<32 - 2, 1 << 24}, {1 << 40, 1<<32 - 1, 1 << 24}, {1 << 40, 1 << 32, 1 << 24}, {1 << 40, 1 << 36, 1 << 24}, {1 << 40, 1 << 60, 1 << 24},
	} {
		b := Bucket{timed: true, above: 5, dropping: true, next: 7, count: x.count, last: 1}
		for id := 0; id < 4; id++ {
			b.Join(queue.Frame{ID: id, Bytes: "0123456789012345678901234567890123456789"})
		}
		g := b.GiveUp(api.Config{Length: 20, Target: 1, Interval: x.interval}, 7)
		if len(g.Dropped) != 1 || g.Frame.ID != 1 {
			t.Errorf("P9: COUNT %d: %v", x.count, g)
		}
		if b.count != x.count+1 || b.next != 7+x.step {
			t.Errorf("P9: after COUNT %d: COUNT %d, NEXT %d; want %d, %d", x.count, b.count, b.next, x.count+1, 7+x.step)
		}
	}
}

// Likewise when the bucket begins to drop.
func TestCountsBeyondTheGreatestAtTheBeginning(t *testing.T) {
	for _, last := range []int{1, 3} {
		b := Bucket{timed: true, above: 5, next: 7, count: 1<<34 + last, last: last}
		for id := 0; id < 4; id++ {
			b.Join(queue.Frame{ID: id, Bytes: "0123456789012345678901234567890123456789"})
		}
		b.GiveUp(api.Config{Length: 20, Target: 1, Interval: 1 << 40}, 7)
		if b.count != 1<<34 || b.last != 1<<34 || b.next != 7+1<<24 || !b.dropping {
			t.Errorf("P9: COUNT %d, LAST %d, NEXT %d", b.count, b.last, b.next)
		}
	}
}
