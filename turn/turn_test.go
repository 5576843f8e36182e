package turn_test

import (
	"testing"

	"fairlink/turn"
)

func next(t *testing.T, l *turn.Turns, quantum, want int) {
	t.Helper()
	b, found := l.Next(quantum)
	if !found || b != want {
		t.Errorf("P8: Next(%d): %d, %v; want %d", quantum, b, found, want)
	}
}

func none(t *testing.T, l *turn.Turns, quantum int) {
	t.Helper()
	if b, found := l.Next(quantum); found || b != 0 {
		t.Errorf("P8: Next(%d): %d, %v; want none", quantum, b, found)
	}
}

func TestNoBucketAtFirst(t *testing.T) {
	l := turn.Turns{}
	none(t, &l, 10)
	l.Leave()
	none(t, &l, 10)
}

func TestNewBucketsInTheOrderInWhichTheyCame(t *testing.T) {
	l := turn.Turns{}
	for _, b := range []int{5, 0, 15} {
		l.Enter(b, 10)
	}
	for _, b := range []int{5, 0, 15} {
		next(t, &l, 10, b)
		next(t, &l, 10, b)
		l.Leave()
	}
	none(t, &l, 10)
}

// A bucket that stands in a list keeps its place and its deficit.
func TestEnterTwice(t *testing.T) {
	l := turn.Turns{}
	l.Enter(1, 10)
	l.Enter(2, 10)
	l.Pay(1, 9)
	l.Enter(1, 10)
	next(t, &l, 10, 1)
	l.Pay(1, 1)
	l.Enter(1, 10)
	next(t, &l, 10, 2)
	l.Leave()
	next(t, &l, 10, 1)
	l.Pay(1, 10)
	l.Enter(1, 10)
	next(t, &l, 10, 2)
	l.Leave()
	next(t, &l, 10, 1)
	l.Leave()
	none(t, &l, 10)
}

// A deficit of 1 is still a turn; of 0 it is none.
func TestDeficitOfNothing(t *testing.T) {
	for _, x := range []struct{ paid, want int }{{0, 1}, {9, 1}, {10, 2}, {11, 2}} {
		l := turn.Turns{}
		l.Enter(1, 10)
		l.Enter(2, 10)
		l.Pay(1, x.paid)
		next(t, &l, 10, x.want)
	}
}

// A deficit far below 0 takes as many rounds as it takes, in which the others have their turns.
func TestDeficitBelowNothing(t *testing.T) {
	l := turn.Turns{}
	l.Enter(1, 10)
	l.Enter(2, 10)
	l.Pay(1, 35)
	for i := 0; i < 3; i++ {
		next(t, &l, 10, 2)
		l.Pay(2, 10)
	}
	next(t, &l, 10, 1)
	l.Pay(1, 4)
	next(t, &l, 10, 1)
	l.Pay(1, 1)
	next(t, &l, 10, 2)
}

func TestSmallestQuantum(t *testing.T) {
	l := turn.Turns{}
	for b := 0; b < 16; b++ {
		l.Enter(b, 1)
		l.Pay(b, 200-b)
	}
	next(t, &l, 1, 15)
	l.Pay(15, 1)
	next(t, &l, 1, 14)
}

// New buckets come before old ones.
func TestNewBeforeOld(t *testing.T) {
	l := turn.Turns{}
	l.Enter(1, 10)
	l.Pay(1, 10)
	next(t, &l, 10, 1)
	l.Enter(2, 10)
	next(t, &l, 10, 2)
	l.Pay(2, 10)
	next(t, &l, 10, 1)
	l.Pay(1, 10)
	next(t, &l, 10, 2)
}

// A new bucket that leaves goes to the end of the old list, if that is not empty, and keeps its deficit there.
func TestNewBucketLeaves(t *testing.T) {
	l := turn.Turns{}
	l.Enter(1, 10)
	l.Pay(1, 10)
	next(t, &l, 10, 1)
	l.Enter(2, 10)
	l.Pay(2, 7)
	next(t, &l, 10, 2)
	l.Leave()
	next(t, &l, 10, 1)
	l.Enter(2, 10)
	next(t, &l, 10, 1)
	l.Pay(1, 10)
	next(t, &l, 10, 2)
	l.Pay(2, 3)
	next(t, &l, 10, 1)
}

// One that leaves the old list, or the new one while the old one is empty, stands in none: it comes in anew.
func TestBucketThatStandsInNone(t *testing.T) {
	l := turn.Turns{}
	l.Enter(1, 10)
	l.Pay(1, 5)
	next(t, &l, 10, 1)
	l.Leave()
	none(t, &l, 10)
	l.Enter(1, 10)
	l.Enter(2, 10)
	l.Pay(1, 9)
	next(t, &l, 10, 1)
	l.Pay(1, 1)
	next(t, &l, 10, 2)
	l.Pay(2, 10)
	next(t, &l, 10, 1)
	l.Leave()
	next(t, &l, 10, 2)
	l.Enter(1, 10)
	next(t, &l, 10, 1)
	l.Leave()
	next(t, &l, 10, 2)
	l.Leave()
	next(t, &l, 10, 1)
	l.Leave()
	none(t, &l, 10)
}

func TestNoSuchBucketAndNoQuantum(t *testing.T) {
	l := turn.Turns{}
	for _, b := range []int{-1, 16, 17, -1 << 63, 1<<63 - 1} {
		l.Enter(b, 10)
		l.Pay(b, 10)
	}
	none(t, &l, 10)
	l.Enter(3, 10)
	l.Pay(3, 20)
	none(t, &l, 0)
	none(t, &l, -1)
	next(t, &l, 10, 3)
}

func TestManyRounds(t *testing.T) {
	l := turn.Turns{}
	for b := 0; b < 16; b++ {
		l.Enter(b, 60)
	}
	for i := 0; i < 16000; i++ {
		next(t, &l, 60, i%16)
		l.Pay(i%16, 60)
	}
}
