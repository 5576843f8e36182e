// Package queue: the frames that wait in one bucket, in the order in which they came.
package queue

// Frame is a frame that waits: its number, its bytes, and the time at which it came.
type Frame struct {
	ID    int
	Bytes string
	Since int
}

// Queue is a bucket's frames; the first is the next to leave. Its zero value holds none.
type Queue struct {
	frames []Frame
	bytes  int
}

// Join lays a frame at the end.
func (q *Queue) Join(f Frame) {
	q.frames = append(q.frames, f)
	q.bytes += len(f.Bytes)
}

// Leave takes the first frame out; false, if there is none.
func (q *Queue) Leave() (Frame, bool) {
	n := len(q.frames)
	if n == 0 {
		return Frame{}, false
	}
	first := q.frames[0]
	for i := 1; i < n; i++ {
		q.frames[i-1] = q.frames[i]
	}
	// The place behind the end would else keep a frame that has gone.
	q.frames[n-1] = Frame{}
	q.frames = q.frames[:n-1]
	q.bytes -= len(first.Bytes)
	return first, true
}

// Frames tells how many frames wait.
func (q *Queue) Frames() int {
	return len(q.frames)
}

// Bytes tells the sum of their lengths.
func (q *Queue) Bytes() int {
	return q.bytes
}
