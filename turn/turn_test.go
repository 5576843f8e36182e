package turn_test

import (
	"testing"

	"fairlink/turn"
)

func next(t *testing.T, l *turn.Turns, quantum, want int) {
	t.Helper()
	b, found := l.Next(quantum)
	if !found || b != want {
		t.Errorf("P8: Next(%d): %d, %v; want %d", quantum, b, found, want)
	}
}

func none(t *testing.T, l *turn.Turns, quantum int) {
	t.Helper()
	if b, found := l.Next(quantum); found || b != 0 {
		t.Errorf("P8: Next(%d): %d, %v; want none", quantum, b, found)
	}
}

func TestNoBucketAtFirst(t *testing.T) {
	l := turn.Turns{}
	none(t, &l, 10)
	l.Leave()
	none(t, &l, 10)
}

func TestNewBucketsInTheOrderInWhichTheyCame(t *testing.T) {
	l := turn.Turns{}
	for _, b := range []int{5, 0, 15} {
		l.Enter(b, 10)
	}
	for _, b := range []int{5, 0, 15} {
		next(t, &l, 10, b)
		next(t, &l, 10, b)
		l.Leave()
	}
	none(t, &l, 10)
}

// A bucket that stands in a list keeps its place and its deficit.
func TestEnterTwice(t *testing.T) {
	l := turn.Turns{}
	l.Enter(1, 10)
	l.Enter(2, 10)
	l.Pay(1, 9)
	l.Enter(1, 10)
	next(t, &l, 10, 1)
	l.Pay(1, 1)
	l.Enter(1, 10)
	next(t, &l, 10, 2)
	l.Leave()
	next(t, &l, 10, 1)
	l.Pay(1, 10)
	l.Enter(1, 10)
	next(t, &l, 10, 2)
	l.Leave()
	next(t, &l, 10, 1)
	l.Leave()
	none(t, &l, 10)
}

// A deficit of 1 is still a turn; of 0 it is none.
func TestDeficitOfNothing(t *testing.T) {
	for _, x := range []struct{ paid, want int }{{0, 1}, {9, 1}, {10, 2}, {11, 2}} {
		l := turn.Turns{}
		l.Enter(1, 10)
		l.Enter(2, 10)
		l.Pay(1, x.paid)
		next(t, &l, 10, x.want)
	}
}

// A deficit far below 0 takes as many rounds as it takes, in which the others have their turns.
func TestDeficitBelowNothing(t *testing.T) {
	l := turn.Turns{}
	l.Enter(1, 10)
	l.Enter(2, 10)
	l.Pay(1, 35)
	for i := 0; i < 3; i++ {
		next(t, &l, 10, 2)
		l.Pay(2, 10)
	}
	next(t, &l, 10, 1)
	l.Pay(1, 4)
	next(t, &l, 10, 1)
	l.Pay(1, 1)
	next(t, &l, 10, 2)
}

func TestSmallestQuantum(t *testing.T) {
	l := turn.Turns{}
	for b := 0; b < 16; b++ {
		l.Enter(b, 1)
		l.Pay(b, 200-b)
	}
	next(t, &l, 1, 15)
	l.Pay(15, 1)
	next(t, &l, 1, 14)
}

// New buckets come before old ones.
func TestNewBeforeOld(t *testing.T) {
	l := turn.Turns{}
	l.Enter(1, 10)
	l.Pay(1, 10)
	next(t, &l, 10, 1)
	l.Enter(2, 10)
	next(t, &l, 10, 2)
	l.Pay(2, 10)
	next(t, &l, 10, 1)
	l.Pay(1, 10)
	next(t, &l, 10, 2)
}

// A new bucket that leaves goes to the end of the old list, if that is not empty, and keeps its deficit there.
func TestNewBucketLeaves(t *testing.T) {
	l := turn.Turns{}
	l.Enter(1, 10)
	l.Pay(1, 10)
	next(t, &l, 10, 1)
	l.Enter(2, 10)
	l.Pay(2, 7)
	next(t, &l, 10, 2)
	l.Leave()
	next(t, &l, 10, 1)
	l.Enter(2, 10)
	next(t, &l, 10, 1)
	l.Pay(1, 10)
	next(t, &l, 10, 2)
	l.Pay(2, 3)
	next(t, &l, 10, 1)
}

// One that leaves the old list, or the new one while the old one is empty, stands in none: it comes in anew.
func TestBucketThatStandsInNone(t *testing.T) {
	l := turn.Turns{}
	l.Enter(1, 10)
	l.Pay(1, 5)
	next(t, &l, 10, 1)
	l.Leave()
	none(t, &l, 10)
	l.Enter(1, 10)
	l.Enter(2, 10)
	l.Pay(1, 9)
	next(t, &l, 10, 1)
	l.Pay(1, 1)
	next(t, &l, 10, 2)
	l.Pay(2, 10)
	next(t, &l, 10, 1)
	l.Leave()
	next(t, &l, 10, 2)
	l.Enter(1, 10)
	next(t, &l, 10, 1)
	l.Leave()
	next(t, &l, 10, 2)
	l.Leave()
	next(t, &l, 10, 1)
	l.Leave()
	none(t, &l, 10)
}

func TestNoSuchBucketAndNoQuantum(t *testing.T) {
	l := turn.Turns{}
	for _, b := range []int{-1, 16, 17, -1 << 63, 1<<63 - 1} {
		l.Enter(b, 10)
		l.Pay(b, 10)
	}
	none(t, &l, 10)
	l.Enter(3, 10)
	l.Pay(3, 20)
	none(t, &l, 0)
	none(t, &l, -1)
	next(t, &l, 10, 3)
}

// turns tells how many bytes, one by one, a bucket gives up in its turn.
func turns(l *turn.Turns, quantum, b int) int {
	n := 0
	for {
		first, found := l.Next(quantum)
		if !found || first != b {
			return n
		}
		l.Pay(b, 1)
		n++
	}
}

func TestLimit(t *testing.T) {
	for _, x := range []struct{ was, limit, want int }{
		{10, 11, 10}, {10, 10, 10}, {10, 9, 9}, {10, 1, 1}, {1000, 1, 1}, {10, 1000, 10}, {1, 1, 1},
	} {
		l := turn.Turns{}
		l.Enter(1, x.was)
		l.Enter(15, x.was)
		l.Enter(0, x.was)
		l.Limit(x.limit)
		for _, b := range []int{1, 15, 0} {
			if got := turns(&l, x.limit, b); got != x.want {
				t.Errorf("P10: a deficit of %d, then Limit(%d): bucket %d has %d; want %d", x.was, x.limit, b, got, x.want)
			}
		}
	}
}

// A deficit of 0 or below stays what it is, and one of a bucket that stands in no list does not matter.
func TestLimitBelowNothing(t *testing.T) {
	for _, paid := range []int{10, 11, 15, 29} {
		l := turn.Turns{}
		l.Enter(1, 10)
		l.Enter(2, 10)
		l.Pay(1, paid)
		l.Limit(4)
		if got := turns(&l, 20, 2); got != 4 {
			t.Errorf("P10: bucket 2 has %d; want 4", got)
		}
		if got, want := turns(&l, 20, 1), 30-paid; got != want {
			t.Errorf("P10: bucket 1 has %d; want %d", got, want)
		}
	}
	l := turn.Turns{}
	l.Enter(1, 10)
	l.Leave()
	l.Limit(4)
	none(t, &l, 4)
	l.Enter(1, 6)
	l.Enter(2, 6)
	if got := turns(&l, 6, 1); got != 6 {
		t.Errorf("P8: bucket 1 has %d; want 6", got)
	}
}

func TestManyRounds(t *testing.T) {
	l := turn.Turns{}
	for b := 0; b < 16; b++ {
		l.Enter(b, 60)
	}
	for i := 0; i < 16000; i++ {
		next(t, &l, 60, i%16)
		l.Pay(i%16, 60)
	}
}
