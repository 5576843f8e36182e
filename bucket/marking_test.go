package bucket_test

import (
	"strings"
	"testing"

	"fairlink/api"
	"fairlink/bucket"
	"fairlink/queue"
)

// marking is rules with ECN set.
func marking(target, interval int) api.Config {
	c := rules(target, interval)
	c.ECN = true
	return c
}

// with is a bucket of frames with these mark bits, which came at 0.
func with(bits ...int) *bucket.Bucket {
	b := &bucket.Bucket{}
	for id, n := range bits {
		b.Join(queue.Frame{ID: id, Bytes: six(n)})
	}
	return b
}

// The first late frame is marked, if it can be, and is given up; else it is dropped, and the next is given up as it is.
func TestFirstLateFrame(t *testing.T) {
	for bits, want := range []string{"D1 S2", "M1", "M1", "D1 S2"} {
		b := with(1, bits, 1, 1, 1)
		c := marking(50, 100)
		gives(t, b, c, 100, "S0")
		f := gives(t, b, c, 200, want)
		if want == "M1" && f.Bytes != six(3) {
			t.Errorf("P9: marked: %x", f.Bytes)
		}
		if want != "M1" && f.Bytes != six(1) {
			t.Errorf("P9: not marked: %x", f.Bytes)
		}
	}
}

func TestLateFrameWhileDropping(t *testing.T) {
	for bits, want := range []string{"D2 S3", "M2", "M2", "D2 S3"} {
		b := with(1, 1, bits, 0, 0, 0, 0, 0)
		c := marking(50, 100)
		gives(t, b, c, 100, "S0")
		gives(t, b, c, 200, "M1")
		f := gives(t, b, c, 300, want)
		if want == "M2" && f.Bytes != six(3) {
			t.Errorf("P9: marked: %x", f.Bytes)
		}
	}
}

// Without ECN, frames that could be marked are dropped.
func TestNothingIsMarkedWithoutECN(t *testing.T) {
	b := with(1, 2, 1, 2, 1, 2, 1, 2, 1)
	c := rules(50, 100)
	gives(t, b, c, 100, "S0")
	gives(t, b, c, 200, "D1 S2")
	f := gives(t, b, c, 300, "D3 S4")
	if f.Bytes != six(1) {
		t.Errorf("P9: %x", f.Bytes)
	}
}

// Frames that are not late, or come before the next step is over, are not marked.
func TestOnlyLateFramesAreMarked(t *testing.T) {
	b := with(1, 1, 1, 1, 1, 1, 1, 1, 1, 1, 1, 1)
	c := marking(50, 100)
	gives(t, b, c, 49, "S0")
	gives(t, b, c, 50, "S1")
	gives(t, b, c, 149, "S2")
	gives(t, b, c, 150, "M3") // NEXT is 250, then 320, then 377
	gives(t, b, c, 249, "S4")
	gives(t, b, c, 250, "M5")
	gives(t, b, c, 319, "S6")
	gives(t, b, c, 320, "M7")
	gives(t, b, c, 376, "S8")
	gives(t, b, c, 377, "M9") // 60 and 60 are left
	gives(t, b, c, 1000, "S10")
}

// A mark ends the taking: though several are due, only one frame is marked at a time, and NEXT grows by one step.
func TestOneMarkAtATime(t *testing.T) {
	b := with(1, 1, 1, 1, 1, 1, 1, 1, 1, 1, 1)
	c := marking(50, 100)
	gives(t, b, c, 100, "S0")
	gives(t, b, c, 200, "M1") // NEXT is 300, then 370, 427, 477
	gives(t, b, c, 430, "M2")
	gives(t, b, c, 430, "M3")
	gives(t, b, c, 430, "M4")
	gives(t, b, c, 430, "S5")
	gives(t, b, c, 476, "S6")
	gives(t, b, c, 477, "M7")
}

// Frames that cannot be marked are dropped, till one can be.
func TestDropsAndThenAMark(t *testing.T) {
	b := with(0, 0, 0, 0, 3, 2, 1, 1, 1, 1, 1)
	c := marking(50, 100)
	gives(t, b, c, 100, "S0")
	gives(t, b, c, 200, "D1 S2")
	f := gives(t, b, c, 500, "D3 D4 M5") // NEXT is 477: 100, 70, 57 and 50 after 200
	if f.Bytes != six(3) {
		t.Errorf("P9: %x", f.Bytes)
	}
	gives(t, b, c, 500, "M6") // 521
	gives(t, b, c, 520, "S7")
	gives(t, b, c, 521, "M8")
}

// The frame after drops is given up as it is, if no further one is due, or it is not late.
func TestDropsAndThenNoMark(t *testing.T) {
	b := with(0, 0, 0, 0, 1, 1, 1, 1, 1)
	c := marking(50, 100)
	gives(t, b, c, 100, "S0")
	gives(t, b, c, 200, "D1 S2")
	gives(t, b, c, 300, "D3 S4")
	b = with(0, 0, 0, 0, 1, 1)
	gives(t, b, c, 100, "S0")
	gives(t, b, c, 200, "D1 S2")
	gives(t, b, c, 500, "D3 S4")
}

// Marks count as drops do: two further ones are remembered when the bucket begins again.
func TestMarksAreCounted(t *testing.T) {
	b := &bucket.Bucket{}
	for id := 0; id < 100; id++ {
		b.Join(queue.Frame{ID: id, Bytes: six(1)})
	}
	c := marking(1, 100)
	gives(t, b, c, 100, "S0")
	gives(t, b, c, 200, "M1")
	gives(t, b, c, 300, "M2")
	gives(t, b, c, 370, "M3")
	calm := c
	calm.Target = 1 << 40
	gives(t, b, calm, 400, "S4")
	gives(t, b, c, 500, "S5")
	gives(t, b, c, 600, "M6")
	gives(t, b, c, 669, "S7")
	gives(t, b, c, 670, "M8")
}

// What cannot be read is dropped though ECN is set and its bits look right.
func TestWhatCannotBeReadIsDropped(t *testing.T) {
	wrongLength := six(1)[:59]
	for _, frame := range []string{strings.Repeat("\x11", 60), strings.Repeat("\x22", 60), wrongLength, "\x60\x10", "\x45\x01", "x"} {
		b := with(1)
		b.Join(queue.Frame{ID: 1, Bytes: frame})
		b.Join(queue.Frame{ID: 2, Bytes: six(1)})
		b.Join(queue.Frame{ID: 3, Bytes: six(1)})
		c := marking(50, 100)
		gives(t, b, c, 100, "S0")
		gives(t, b, c, 200, "D1 S2")
	}
}

// The lists of what is dropped share no memory.
func TestListsOfDroppedFrames(t *testing.T) {
	b := long()
	c := rules(1, 1)
	drops(t, b, c, 0, 0)
	first := b.GiveUp(c, 1)
	second := b.GiveUp(c, 2)
	id := first.Dropped[0].ID
	for i := range second.Dropped {
		second.Dropped[i] = queue.Frame{ID: -1}
	}
	if len(first.Dropped) != 1 || first.Dropped[0].ID != id {
		t.Errorf("the first list was changed: %v", first.Dropped)
	}
}
