// Package bucket: a bucket: the frames that wait in it, how it gives them up, and which it drops or marks for their delay (P9).
package bucket

import "fairlink/queue"

// Bucket is the frames that wait, and what is remembered of their delay. Its zero value is a new one.
type Bucket struct {
	frames   queue.Queue
	timed    bool // has above a meaning?
	above    int  // from then on, a frame that has waited too long is late
	dropping bool
	next     int // when the next drop is due
	count    int
	last     int // what count was when the bucket last began to drop
}

// Join lays a frame at the end.
func (b *Bucket) Join(f queue.Frame) {
	b.frames.Join(f)
}

// Drop takes the first frame out, and nothing is remembered of it; false, if there is none.
func (b *Bucket) Drop() (queue.Frame, bool) {
	return b.frames.Leave()
}

// Frames tells how many frames wait.
func (b *Bucket) Frames() int {
	return b.frames.Frames()
}

// Bytes tells the sum of their lengths.
func (b *Bucket) Bytes() int {
	return b.frames.Bytes()
}
