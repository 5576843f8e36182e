package port

import (
	"fairlink/api"
	"fairlink/bucket"
	"fairlink/turn"
)

// keepsBuckets tells whether frames that wait may stay where they are, as a configuration takes the place of another (P10).
func keepsBuckets(was, c api.Config) bool {
	return c.Buckets == was.Buckets && c.Key == was.Key && c.Length == was.Length
}

// adopt lets a configuration hold from now on, with the buckets as they are. The link is left alone: the frame on it stays as long as it was to.
func (p *Port) adopt(c api.Config) {
	p.config = c
	p.turns.Limit(c.Quantum)
}

// renew lets a configuration hold from now on, with buckets as those of a new port. The link is left alone here too.
func (p *Port) renew(c api.Config) {
	p.config = c
	p.buckets = make([]bucket.Bucket, c.Buckets)
	p.turns = turn.Turns{}
}

// flush drops all frames that wait, bucket by bucket.
func (p *Port) flush() []api.Event {
	var events []api.Event
	for b := range p.buckets {
		f, found := p.buckets[b].Drop()
		for found {
			e := p.happen(api.Flushed, b, f)
			events = append(events, e)
			f, found = p.buckets[b].Drop()
		}
	}
	return events
}

// countAnew sets all counts to 0, but for the number of frames taken in: that is the next frame's number too (P11).
func (p *Port) countAnew() {
	taken := p.counts[takenIn]
	p.counts = [counters]int{}
	p.counts[takenIn] = taken
}
