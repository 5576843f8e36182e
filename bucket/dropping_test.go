package bucket_test

import (
	"testing"

	"fairlink/bucket"
)

// While a bucket is DROPPING, one frame is dropped each time that a step is over (100, 70, 57, 50 and 44 for Interval 100).
func TestDropsComeFasterAndFaster(t *testing.T) {
	b := long()
	c := rules(1, 100)
	begins(t, b, c, 100)
	for _, next := range []int{200, 270, 327, 377, 421} {
		drops(t, b, c, next-1, 0)
		drops(t, b, c, next, 1)
		drops(t, b, c, next, 0)
	}
}

// NEXT grows from what it was, not from now.
func TestNextGrowsFromItself(t *testing.T) {
	b := long()
	c := rules(1, 100)
	begins(t, b, c, 100)
	drops(t, b, c, 260, 1)
	drops(t, b, c, 269, 0)
	drops(t, b, c, 270, 1)
}

// All drops that are due by now are made in one taking: 2 at 200, 3 at 270, 4 at 327, 5 at 377.
func TestSeveralDropsInOneTaking(t *testing.T) {
	for _, x := range []struct{ at, want int }{{199, 0}, {200, 1}, {269, 1}, {270, 2}, {326, 2}, {327, 3}, {377, 4}, {420, 4}, {421, 5}} {
		b := long()
		c := rules(1, 100)
		begins(t, b, c, 100)
		drops(t, b, c, x.at, x.want)
		drops(t, b, c, x.at, 0)
	}
}

// Where a step is 0, all late frames are dropped in one taking.
func TestStepOfNothing(t *testing.T) {
	b := since(0, 60, 60, 60, 60, 60, 60, 60, 60)
	c := rules(1, 1)
	gives(t, b, c, 1, "S0")
	gives(t, b, c, 2, "D1 S2") // NEXT is 3
	gives(t, b, c, 3, "D3 D4 D5 S6")
	gives(t, b, c, 4, "S7")
	gives(t, b, c, 5, "")
}

// The drops end with a frame that is not late: it is given up, and the bucket is not DROPPING.
func TestDropsEndWithAFrameThatIsNotLate(t *testing.T) {
	b := since(0, 60, 60, 60, 60, 60)
	more(b, 5, 390, 60, 60, 60, 60, 60, 60, 60)
	c := rules(50, 100)
	gives(t, b, c, 100, "S0")
	gives(t, b, c, 200, "D1 S2") // NEXT is 300, then 370, 427
	gives(t, b, c, 400, "D3 D4 S5")
	gives(t, b, c, 440, "S6") // ABOVE is 540
	gives(t, b, c, 539, "S7")
	gives(t, b, c, 540, "D8 S9")
}

// The frame that comes after the drop with which a bucket begins is given up, late or not, and the bucket is DROPPING.
func TestFrameAfterTheFirstDrop(t *testing.T) {
	c := rules(50, 100)
	b := since(0, 60, 60, 60, 60, 60, 60)
	gives(t, b, c, 100, "S0")
	gives(t, b, c, 200, "D1 S2")
	gives(t, b, c, 299, "S3")
	gives(t, b, c, 300, "S4")
	b = since(0, 60, 60)
	more(b, 2, 199, 60, 60, 60, 60, 60, 60)
	gives(t, b, c, 100, "S0")
	gives(t, b, c, 200, "D1 S2") // 2 has waited 1: ABOVE is nothing
	gives(t, b, c, 300, "S3")    // ABOVE is 400
	gives(t, b, c, 400, "D4 S5")
	b = since(0, 60, 60, 30, 31)
	gives(t, b, c, 100, "S0")
	gives(t, b, c, 200, "D1 S2") // 31 are left
	gives(t, b, c, 300, "S3")
	gives(t, b, c, 300, "")
}

// A bucket that is DROPPING ends that with the first frame that is not late, though the next would be.
func TestDroppingEnds(t *testing.T) {
	b := long()
	c := rules(1, 100)
	begins(t, b, c, 100)
	rest(t, b, c, 150)
	drops(t, b, c, 200, 0) // ABOVE is 300
	drops(t, b, c, 299, 0)
	drops(t, b, c, 300, 1)
}

// again lets a bucket drop, so many further times, rest, and begin to drop again at a time: the step from there on tells COUNT.
func again(t *testing.T, further, at, step int) {
	t.Helper()
	b := long()
	c := rules(1, 100)
	begins(t, b, c, 100)
	for _, next := range []int{200, 270, 327, 377}[:further] {
		drops(t, b, c, next, 1)
	}
	rest(t, b, c, 400)
	begins(t, b, c, at)
	drops(t, b, c, at+step-1, 0)
	drops(t, b, c, at+step, 1)
}

// COUNT less LAST is 0, 1, 2, 3, 4.
func TestCountLessLast(t *testing.T) {
	again(t, 0, 1000, 100)
	again(t, 1, 1000, 100)
	again(t, 2, 1000, 70)
	again(t, 3, 1000, 57)
	again(t, 4, 1000, 50)
}

// NEXT is 327 after two further drops, 377 after three: 16 times Interval are 1600.
func TestSixteenIntervals(t *testing.T) {
	again(t, 2, 327+1500, 70)
	again(t, 2, 327+1598, 70)
	again(t, 2, 327+1599, 70)
	again(t, 2, 327+1600, 100)
	again(t, 2, 327+1601, 100)
	again(t, 3, 377+1599, 57)
	again(t, 3, 377+1600, 100)
	again(t, 1, 270+1599, 100)
	again(t, 1, 270+1600, 100)
	again(t, 4, 421+1599, 50)
	again(t, 2, 1<<60, 100)
}

// LAST is what COUNT is as the bucket begins to drop: the next time, only what came since then is told.
func TestLastFollowsCount(t *testing.T) {
	b := long()
	c := rules(1, 100)
	begins(t, b, c, 100)
	for _, next := range []int{200, 270, 327} {
		drops(t, b, c, next, 1)
	}
	rest(t, b, c, 400)
	begins(t, b, c, 600) // COUNT is 3, the steps are 57, 50, 44, 40
	drops(t, b, c, 657, 1)
	drops(t, b, c, 706, 0)
	drops(t, b, c, 707, 1)
	rest(t, b, c, 710)
	begins(t, b, c, 900) // COUNT is 5 less 3
	drops(t, b, c, 969, 0)
	drops(t, b, c, 970, 1)
	rest(t, b, c, 980)
	begins(t, b, c, 1200) // 3 less 2
	drops(t, b, c, 1299, 0)
	drops(t, b, c, 1300, 1)
}

// old lays n frames into a bucket that came long ago.
func old(b *bucket.Bucket, n int) {
	for ; n > 0; n-- {
		more(b, 0, -1<<40, 60)
	}
}

// The drop that ends with a frame that is not late is counted, but NEXT stays: 270.
func TestNextStaysAtTheEndOfDrops(t *testing.T) {
	for _, x := range []struct{ at, step int }{{270 + 1599, 70}, {270 + 1600, 100}} {
		b := &bucket.Bucket{}
		c := rules(1, 100)
		old(b, 6)
		more(b, 0, 270, 60)
		old(b, 20)
		begins(t, b, c, 100)
		drops(t, b, c, 200, 1)
		drops(t, b, c, 270, 1)
		begins(t, b, c, x.at)
		drops(t, b, c, x.at+x.step-1, 0)
		drops(t, b, c, x.at+x.step, 1)
	}
}

// A bucket begins to drop though the frame after the first drop is not late: COUNT less LAST is 0 the next time.
func TestBeginningWithAFrameThatIsNotLate(t *testing.T) {
	b := &bucket.Bucket{}
	c := rules(1, 100)
	old(b, 10)
	more(b, 0, 600, 60)
	old(b, 20)
	begins(t, b, c, 100)
	drops(t, b, c, 200, 1)
	drops(t, b, c, 270, 1)
	rest(t, b, c, 400)
	begins(t, b, c, 600)
	begins(t, b, c, 800)
	drops(t, b, c, 899, 0)
	drops(t, b, c, 900, 1)
}

// Now is not behind NEXT at all, as Interval was greater before: what was dropped is remembered.
func TestNotBehindNext(t *testing.T) {
	// NEXT is 228445: 100000, and the steps 70710 and 57735 for 2 and 3.
	for _, x := range []struct{ at, step int }{{200000, 7}, {228444, 7}, {228445, 7}, {228446, 7}, {228445 + 159, 7}, {228445 + 160, 10}} {
		b := long()
		c := rules(1, 100000)
		begins(t, b, c, 0)
		drops(t, b, c, 100000, 1)
		drops(t, b, c, 170710, 1)
		rest(t, b, c, 170711)
		c.Interval = 10
		begins(t, b, c, x.at)
		drops(t, b, c, x.at+x.step-1, 0)
		drops(t, b, c, x.at+x.step, 1)
	}
}

// A bucket that is emptied while it is DROPPING, and is then asked for a frame, begins from nothing.
func TestEmptyWhileDropping(t *testing.T) {
	b := since(0, 60, 60, 60, 60, 60)
	c := rules(50, 100)
	gives(t, b, c, 100, "S0")
	gives(t, b, c, 200, "D1 S2")
	b.Drop()
	b.Drop()
	gives(t, b, c, 250, "")
	more(b, 5, 0, 60, 60, 60, 60, 60, 60, 60)
	gives(t, b, c, 300, "S5") // ABOVE is 400
	gives(t, b, c, 399, "S6")
	gives(t, b, c, 400, "D7 S8")
	gives(t, b, c, 499, "S9")
}

// One that is filled again before it is asked goes on as it was.
func TestEmptyAndFilledAgain(t *testing.T) {
	b := since(0, 60, 60, 60, 60, 60)
	c := rules(50, 100)
	gives(t, b, c, 100, "S0")
	gives(t, b, c, 200, "D1 S2")
	b.Drop()
	b.Drop()
	more(b, 5, 0, 60, 60, 60, 60, 60, 60)
	gives(t, b, c, 299, "S5")
	gives(t, b, c, 300, "D6 S7")
}

// What is dropped for other reasons leaves ABOVE and NEXT alone.
func TestOtherDropsAreNotRemembered(t *testing.T) {
	b := long()
	c := rules(1, 100)
	drops(t, b, c, 0, 0)
	b.Drop()
	begun := b.Frames()
	drops(t, b, c, 99, 0)
	drops(t, b, c, 100, 1)
	for i := 0; i < 5; i++ {
		b.Drop()
	}
	drops(t, b, c, 199, 0)
	drops(t, b, c, 200, 1)
	drops(t, b, c, 269, 0)
	drops(t, b, c, 270, 1)
	if left := b.Frames(); left != begun-1-2-5-1-2-1-2 {
		t.Errorf("%d frames are left of %d", left, begun)
	}
}
