package bucket_test

import (
	"testing"

	"fairlink/bucket"
	"fairlink/queue"
)

func TestFramesThatWait(t *testing.T) {
	b := since(0, 20, 30, 40)
	c := rules(50, 200)
	has(t, b, 3, 90)
	if f, found := b.Drop(); !found || f.ID != 0 || len(f.Bytes) != 20 {
		t.Errorf("%v, %v; want the first frame", f, found)
	}
	has(t, b, 2, 70)
	gives(t, b, c, 0, "S1")
	has(t, b, 1, 40)
	gives(t, b, c, 0, "S2")
	gives(t, b, c, 0, "")
	if f, found := b.Drop(); found || f != (queue.Frame{}) {
		t.Errorf("%v, %v; want none", f, found)
	}
	has(t, b, 0, 0)
}

func TestNewBucketGivesUpNothing(t *testing.T) {
	b := &bucket.Bucket{}
	for now := 0; now < 300; now += 100 {
		gives(t, b, rules(1, 1), now, "")
	}
}

// A wait of just Target makes a frame late.
func TestWaitOfALateFrame(t *testing.T) {
	for _, x := range []struct {
		came int
		want string
	}{{49, "D1 S2"}, {50, "D1 S2"}, {51, "S1"}, {100, "S1"}} {
		b := since(0, 60)
		more(b, 1, x.came, 60, 60, 60, 60)
		c := rules(50, 50)
		gives(t, b, c, 50, "S0") // ABOVE is 100
		gives(t, b, c, 100, x.want)
	}
}

// A wait of just Target sets ABOVE; one less does not.
func TestWaitThatSetsAbove(t *testing.T) {
	b := since(0, 60, 60, 60, 60, 60, 60)
	c := rules(50, 50)
	gives(t, b, c, 49, "S0")
	gives(t, b, c, 99, "S1")
	gives(t, b, c, 149, "D2 S3")
	b = since(0, 60, 60, 60, 60, 60, 60)
	gives(t, b, c, 50, "S0")
	gives(t, b, c, 99, "S1")
	gives(t, b, c, 100, "D2 S3")
}

// A wait of one less than Target makes ABOVE nothing; just Target leaves it as it is.
func TestWaitThatEndsAbove(t *testing.T) {
	for _, x := range []struct {
		came int
		want string
	}{{40, "D2 S3"}, {41, "S2"}} {
		b := since(0, 60)
		more(b, 1, x.came, 60, 60, 60, 60, 60)
		c := rules(50, 50)
		gives(t, b, c, 50, "S0")
		gives(t, b, c, 90, "S1")
		gives(t, b, c, 100, x.want)
	}
}

// Just Length bytes that are left behind do not make a frame late; one more does.
func TestBytesBehindALateFrame(t *testing.T) {
	c := rules(50, 50)
	for _, last := range [][]int{{59}, {60}, {30, 30}, {59, 1}} {
		b := since(0, append([]int{60, 60}, last...)...)
		gives(t, b, c, 50, "S0")
		gives(t, b, c, 100, "S1")
	}
	for _, last := range [][]int{{60, 1}, {1, 60}, {30, 31}, {60, 60}} {
		b := since(0, append([]int{60, 60}, last...)...)
		gives(t, b, c, 50, "S0")
		gives(t, b, c, 100, "D1 S2")
	}
}

func TestBytesThatSetAbove(t *testing.T) {
	c := rules(50, 50)
	b := since(0, 60, 60)
	gives(t, b, c, 60, "S0") // 60 are left: ABOVE stays nothing
	more(b, 2, 0, 60, 60, 60, 60)
	gives(t, b, c, 110, "S1")
	gives(t, b, c, 160, "D2 S3")
	b = since(0, 60, 60, 1)
	gives(t, b, c, 60, "S0")
	more(b, 3, 0, 60, 60, 60, 60)
	gives(t, b, c, 110, "D1 S2")
}

func TestBytesThatEndAbove(t *testing.T) {
	c := rules(50, 50)
	b := since(0, 60, 60, 60)
	gives(t, b, c, 60, "S0")
	gives(t, b, c, 90, "S1") // 60 are left: ABOVE is nothing
	more(b, 3, 0, 60, 60, 60, 60)
	gives(t, b, c, 110, "S2")
	gives(t, b, c, 160, "D3 S4")
	b = since(0, 60, 60, 60, 1)
	gives(t, b, c, 60, "S0")
	gives(t, b, c, 90, "S1")
	more(b, 4, 0, 60, 60, 60, 60)
	gives(t, b, c, 110, "D2 S3")
}

// Length is the configuration's, and has nothing to do with the frames that are there.
func TestLengthOfTheConfiguration(t *testing.T) {
	c := rules(50, 50)
	c.Length = 100
	b := since(0, 60, 60, 60, 40)
	gives(t, b, c, 50, "S0")
	gives(t, b, c, 100, "S1")
	b = since(0, 60, 60, 60, 41)
	gives(t, b, c, 50, "S0")
	gives(t, b, c, 100, "D1 S2")
}

func TestAboveLaterAndNow(t *testing.T) {
	c := rules(1, 200)
	for _, x := range []struct{ at, want int }{{1, 0}, {198, 0}, {199, 0}, {200, 1}, {201, 1}, {1 << 50, 1}} {
		b := long()
		drops(t, b, c, 0, 0) // ABOVE is 200
		drops(t, b, c, x.at, x.want)
	}
}

// Interval is added when ABOVE is set, not when a frame is looked at.
func TestAboveStays(t *testing.T) {
	b := long()
	c := rules(1, 200)
	drops(t, b, c, 0, 0)
	c.Interval = 1 << 40
	drops(t, b, c, 199, 0)
	drops(t, b, c, 200, 1)
}

// The first frame that is taken sets ABOVE even at the greatest times and intervals.
func TestGreatestTimes(t *testing.T) {
	const end = 1 << 62
	c := rules(1<<40, 1<<40)
	b := long()
	drops(t, b, c, end-1<<40, 0)
	drops(t, b, c, end-1, 0)
	drops(t, b, c, end, 1)
	drops(t, b, c, end, 0)
	b = long()
	drops(t, b, c, end, 0)
	drops(t, b, c, end, 0)
}
