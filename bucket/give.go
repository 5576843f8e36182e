package bucket

import (
	"fairlink/api"
	"fairlink/mark"
	"fairlink/queue"
	"fairlink/step"
)

// So many intervals after a drop was due, it no longer matters how many there were.
const remembered = 16

// Given is what a bucket gives up: a frame, if Found, which may have been Marked; and the frames that were dropped before it.
type Given struct {
	Dropped []queue.Frame
	Frame   queue.Frame
	Found   bool
	Marked  bool
}

// GiveUp lets the bucket give up a frame now.
func (b *Bucket) GiveUp(c api.Config, now int) Given {
	f, found, late := b.take(c, now)
	g := Given{Frame: f, Found: found}
	if !late {
		b.dropping = false
		return g
	}
	if b.dropping {
		return b.goOn(g, c, now)
	}
	return b.begin(g, c, now)
}

// take takes the first frame out of the queue: the frame, whether there is one, and whether it is late.
func (b *Bucket) take(c api.Config, now int) (queue.Frame, bool, bool) {
	f, found := b.frames.Leave()
	behind := b.frames.Bytes()
	if !found || now-f.Since < c.Target || behind <= c.Length {
		b.timed = false
		return f, found, false
	}
	if !b.timed {
		b.timed = true
		b.above = now + c.Interval
		return f, true, false
	}
	return f, true, b.above <= now
}

// goOn is for a late frame while the bucket is dropping: as many are dropped as are due by now, or one is marked.
func (b *Bucket) goOn(g Given, c api.Config, now int) Given {
	// Each time round a frame leaves the queue: this ends even where the step is 0.
	for b.dropping && now >= b.next {
		b.count++
		g = markIfCan(g, c)
		if g.Marked {
			b.next += step.Of(c.Interval, b.count)
			return g
		}
		g.Dropped = append(g.Dropped, g.Frame)
		f, found, late := b.take(c, now)
		g.Frame = f
		g.Found = found
		if late {
			b.next += step.Of(c.Interval, b.count)
		} else {
			b.dropping = false
		}
	}
	return g
}

// begin is for a late frame while the bucket is not dropping: it is marked or dropped, and the bucket is dropping from now on.
func (b *Bucket) begin(g Given, c api.Config, now int) Given {
	g = markIfCan(g, c)
	if !g.Marked {
		g.Dropped = append(g.Dropped, g.Frame)
		f, found, _ := b.take(c, now)
		g.Frame = f
		g.Found = found
	}
	b.dropping = true
	count := b.count - b.last
	if count <= 1 || now-b.next >= remembered*c.Interval {
		count = 1
	}
	b.count = count
	b.last = count
	b.next = now + step.Of(c.Interval, count)
	return g
}

// markIfCan marks the frame that is to be given up, if it can be marked.
func markIfCan(g Given, c api.Config) Given {
	if !c.ECN {
		return g
	}
	marked, can := mark.Set(g.Frame.Bytes)
	if can {
		g.Frame.Bytes = marked
		g.Marked = true
	}
	return g
}
