// Package port: a scheduler and the link that it feeds: see DOC.md.
package port

import (
	"fairlink/api"
	"fairlink/bucket"
	"fairlink/queue"
	"fairlink/turn"
)

// What Counts tells, by its place. The kinds of events stand between these two, each at its own number.
const (
	takenIn  = 0
	bytesOut = api.Flushed + 1
	counters = bytesOut + 1
)

// Port is a scheduler and its link.
type Port struct {
	config  api.Config
	now     int
	busy    bool
	until   int // when the frame on the link has gone out; has a meaning only while busy
	buckets []bucket.Bucket
	turns   turn.Turns
	counts  [counters]int
}

// New makes a port of a configuration (P3).
func New(c api.Config) (*Port, api.Errno) {
	if !sound(c) {
		return nil, api.ErrConfig
	}
	return &Port{config: c, buckets: make([]bucket.Bucket, c.Buckets)}, api.OK
}

// Arrive takes a frame in: its number, and what happens at once (P4).
func (p *Port) Arrive(frame string) (int, []api.Event, api.Errno) {
	if len(frame) == 0 {
		return -1, nil, api.ErrEmpty
	}
	if len(frame) > p.config.Length {
		return -1, nil, api.ErrLong
	}
	id := p.counts[takenIn]
	p.counts[takenIn]++
	b := p.place(frame)
	p.buckets[b].Join(queue.Frame{ID: id, Bytes: frame, Since: p.now})
	p.turns.Enter(b, p.config.Quantum)
	events := p.shed(nil)
	if !p.busy {
		events = p.feed(events)
	}
	return id, events, api.OK
}

// Advance lets n units of time go by: what happens in them (P5).
func (p *Port) Advance(n int) ([]api.Event, api.Errno) {
	// The room that is left is compared, as now and n together could go round.
	if n < 0 || n > api.MaxTime-p.now {
		return nil, api.ErrClock
	}
	end := p.now + n
	var events []api.Event
	for p.busy && p.until <= end {
		p.now = p.until
		p.busy = false
		events = p.feed(events)
	}
	p.now = end
	return events, api.OK
}

// Configure gives the port another configuration (P10).
func (p *Port) Configure(c api.Config) ([]api.Event, api.Errno) {
	if !sound(c) {
		return nil, api.ErrConfig
	}
	if keepsBuckets(p.config, c) {
		p.adopt(c)
		return p.shed(nil), api.OK
	}
	events := p.flush()
	p.renew(c)
	return events, api.OK
}

// Reset gives it another key, and counts anew (P11).
func (p *Port) Reset(key string) ([]api.Event, api.Errno) {
	if len(key) != api.KeyLen {
		return nil, api.ErrConfig
	}
	c := p.config
	c.Key = key
	events := p.flush()
	p.renew(c)
	p.countAnew()
	return events, api.OK
}

// Now tells the time, and whether the link is busy (P6).
func (p *Port) Now() (int, bool) {
	return p.now, p.busy
}

// Held tells how many frames wait, and how much memory they take (P6).
func (p *Port) Held() (int, int) {
	frames := 0
	memory := 0
	for b := range p.buckets {
		k, sum := p.Backlog(b)
		frames += k
		memory += sum + k*api.Over
	}
	return frames, memory
}

// Backlog tells how many frames of a bucket wait, and how many bytes they have (P6).
func (p *Port) Backlog(b int) (int, int) {
	if b < 0 || b >= len(p.buckets) {
		return 0, 0
	}
	frames := p.buckets[b].Frames()
	bytes := p.buckets[b].Bytes()
	return frames, bytes
}

// Counts tells what has become of all frames (P6).
func (p *Port) Counts() []int {
	// Made anew each time, for the list is the caller's to change.
	list := make([]int, 0, counters)
	for _, n := range p.counts {
		list = append(list, n)
	}
	return list
}
