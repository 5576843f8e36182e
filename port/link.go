package port

import (
	"fairlink/api"
	"fairlink/bucket"
	"fairlink/flow"
	"fairlink/queue"
	"fairlink/sip"
)

// place is the number of the bucket to which a frame belongs (P7).
func (p *Port) place(frame string) int {
	text := flow.Of(frame)
	hash := sip.Hash(p.config.Key, text)
	// The high half is below 2^32, so this is a whole number below Buckets.
	return int((hash >> 32) * uint64(p.config.Buckets) >> 32)
}

// tooMuch tells whether more waits than the configuration lets (P7).
func (p *Port) tooMuch() bool {
	frames, memory := p.Held()
	return frames > p.config.Packets || memory > p.config.Memory
}

// fullest is the number of the bucket with the most bytes, of several such the least (P7).
func (p *Port) fullest() int {
	best := 0
	most := 0
	for b := range p.buckets {
		bytes := p.buckets[b].Bytes()
		if bytes > most {
			best = b
			most = bytes
		}
	}
	return best
}

// shed drops frames, as long as there is too much (P7).
func (p *Port) shed(events []api.Event) []api.Event {
	for p.tooMuch() {
		b := p.fullest()
		f, found := p.buckets[b].Drop()
		if !found {
			break
		}
		e := p.happen(api.Overload, b, f)
		events = append(events, e)
	}
	return events
}

// feed lets the idle link take a frame, if one waits (P8); frames that have waited too long may be dropped before it (P9).
func (p *Port) feed(events []api.Event) []api.Event {
	b, found := p.turns.Next(p.config.Quantum)
	for found {
		given := p.buckets[b].GiveUp(p.config, p.now)
		for _, f := range given.Dropped {
			e := p.happen(api.Delayed, b, f)
			events = append(events, e)
		}
		if given.Found {
			p.turns.Pay(b, len(given.Frame.Bytes))
			e := p.send(b, given)
			return append(events, e)
		}
		p.turns.Leave()
		b, found = p.turns.Next(p.config.Quantum)
	}
	return events
}

// send lays a frame that was given up on the link.
func (p *Port) send(b int, g bucket.Given) api.Event {
	p.busy = true
	// This may lie beyond MaxTime, but not by so much that it goes round.
	p.until = p.now + len(g.Frame.Bytes)*p.config.Tau
	p.counts[bytesOut] += len(g.Frame.Bytes)
	kind := api.Sent
	if g.Marked {
		kind = api.Marked
	}
	return p.happen(kind, b, g.Frame)
}

// happen counts an event that befalls a frame of a bucket now, and makes it.
func (p *Port) happen(kind, b int, f queue.Frame) api.Event {
	if kind >= api.Sent && kind <= api.Flushed {
		p.counts[kind]++
	}
	return api.Event{At: p.now, Kind: kind, ID: f.ID, Bucket: b, Frame: f.Bytes}
}
