package port

import (
	"fairlink/api"
	"fairlink/queue"
)

// tooMuch tells whether more waits than the configuration lets (P7).
func (p *Port) tooMuch() bool {
	frames, memory := p.Held()
	return frames > p.config.Packets || memory > p.config.Memory
}

// shed drops frames, as long as there is too much (P7).
func (p *Port) shed(events []api.Event) []api.Event {
	for p.tooMuch() {
		f, found := p.bucket.Leave()
		if !found {
			break
		}
		e := p.happen(api.Overload, f)
		events = append(events, e)
	}
	return events
}

// feed lets the idle link take a frame, if one waits (P8).
func (p *Port) feed(events []api.Event) []api.Event {
	f, found := p.bucket.Leave()
	if !found {
		return events
	}
	p.busy = true
	// This may lie beyond MaxTime, but not by so much that it goes round.
	p.until = p.now + len(f.Bytes)*p.config.Tau
	p.counts[bytesOut] += len(f.Bytes)
	e := p.happen(api.Sent, f)
	return append(events, e)
}

// happen counts an event that befalls a frame now, and makes it.
func (p *Port) happen(kind int, f queue.Frame) api.Event {
	if kind >= api.Sent && kind <= api.Flushed {
		p.counts[kind]++
	}
	return api.Event{At: p.now, Kind: kind, ID: f.ID, Bucket: only, Frame: f.Bytes}
}
