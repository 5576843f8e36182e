package port_test

import (
	"encoding/binary"
	"fmt"
	"math/big"
	"testing"

	"fairlink/api"
)

// mind is what a bucket remembers (P9).
type mind struct {
	above             *int // or nothing
	dropping          bool
	next, count, last int
}

// met notes that an edge was met: where a number is less than another by so much, if that is little.
func (m *model) met(what string, difference int) {
	if m.edges != nil && difference >= -1 && difference <= 2 {
		m.edges[fmt.Sprint(what, " ", difference)]++
	}
}

// take takes the first frame of a bucket; nil, if there is none.
func (m *model) take(b int) (*api.Event, bool) {
	r := &m.minds[b]
	if len(m.queues[b]) == 0 {
		if r.above != nil {
			m.met("empty while ABOVE is a time", 0)
		}
		r.above = nil
		return nil, false
	}
	f := m.first(b)
	waited := m.now - f.At
	_, behind := m.backlog(b)
	m.met("waited less Target", waited-m.c.Target)
	m.met("behind less Length", behind-m.c.Length)
	f.Kind = api.Sent
	much := waited >= m.c.Target && behind > m.c.Length
	switch {
	case !much:
		r.above = nil
	case r.above == nil:
		soon := m.now + m.c.Interval
		r.above = &soon
	default:
		m.met("ABOVE less now", *r.above-m.now)
		return &f, *r.above <= m.now
	}
	return &f, false
}

// giveUp is the five points of P9. The frame's Kind tells whether it was marked.
func (m *model) giveUp(b int) *api.Event {
	r := &m.minds[b]
	f, late := m.take(b)
	if f == nil {
		if r.dropping {
			m.met("empty while DROPPING", 0)
		}
		r.dropping = false
		return nil
	}
	switch {
	case r.dropping && !late:
		r.dropping = false
	case r.dropping && late:
		return m.goOn(b, f)
	case late:
		return m.begin(b, f)
	}
	return f
}

func (m *model) goOn(b int, f *api.Event) *api.Event {
	r := &m.minds[b]
	m.met("NEXT less now", r.next-m.now)
	for dropped := 0; r.dropping && m.now >= r.next; dropped++ {
		r.count++
		if m.mark(f) {
			m.met("dropped before a mark", dropped)
			r.next += modelStep(m.c.Interval, r.count)
			return f
		}
		m.happens(api.Delayed, *f)
		m.met("dropped before in one taking", dropped)
		var late bool
		f, late = m.take(b)
		if f != nil && late {
			r.next += modelStep(m.c.Interval, r.count)
		} else {
			r.dropping = false
		}
	}
	return f
}

func (m *model) begin(b int, f *api.Event) *api.Event {
	r := &m.minds[b]
	if !m.mark(f) {
		m.happens(api.Delayed, *f)
		f, _ = m.take(b)
	}
	r.dropping = true
	d := r.count - r.last
	m.met("COUNT less LAST", d)
	if d > 1 {
		m.met("now less NEXT less 16 Interval", m.now-r.next-16*m.c.Interval)
		m.met("now less NEXT", m.now-r.next)
	}
	if d > 1 && m.now-r.next < 16*m.c.Interval {
		r.count = d
	} else {
		r.count = 1
	}
	r.last = r.count
	r.next = m.now + modelStep(m.c.Interval, r.count)
	return f
}

func modelStep(interval, n int) int {
	x := big.NewInt(int64(interval))
	x.Mul(x, x)
	x.Div(x, big.NewInt(int64(min(n, 1<<32-1))))
	return int(x.Sqrt(x).Int64())
}

// mark marks a frame, if it can be marked.
func (m *model) mark(f *api.Event) bool {
	if !m.c.ECN {
		return false
	}
	b := []byte(f.Frame)
	read := modelFlow(b)[0]
	if read == 0 {
		return false
	}
	shift := 0
	if read == 6 {
		shift = 4
	}
	bits := b[1] >> shift & 3
	m.met(fmt.Sprintf("mark bits of IPv%d: %d", read, bits), 0)
	if bits == 0 || bits == 3 {
		return false
	}
	b[1] |= 3 << shift
	if read == 4 {
		modelChecksum(b)
	}
	f.Frame, f.Kind = string(b), api.Marked
	return true
}

// modelChecksum tries all checksums, from 0 on.
func modelChecksum(b []byte) {
	for n := 0; n < 1<<16; n++ {
		binary.BigEndian.PutUint16(b[10:], uint16(n))
		if modelIPv4(b) != nil {
			return
		}
	}
}

// brisk is a configuration of few short frames and times, in which the edges of P9 are met all the time.
func brisk(d *dice) api.Config {
	c := randomConfig(d)
	c.Buckets = 1 + d.roll(3)
	c.Packets, c.Memory = 1+d.roll(64), api.MaxMemory
	c.Length = 20 + d.roll(40)
	c.Tau = 1 + d.roll(2)
	c.Interval = 1 + d.roll([]int{2, 10, 100, 300}[d.roll(4)])
	c.Target = 1 + d.roll(min(c.Interval, 20))
	return c
}

func TestDelaysAgainstModel(t *testing.T) {
	d := &dice{4}
	edges := map[string]int{}
	for round := 0; round < 400; round++ {
		playRandom(d, pair(t, brisk(d), edges), 600)
	}
	for _, what := range []string{"waited less Target", "behind less Length", "ABOVE less now", "NEXT less now"} {
		for n := -1; n <= 1; n++ {
			often(t, edges, fmt.Sprint(what, " ", n))
		}
	}
	for _, what := range []string{"COUNT less LAST", "dropped before a mark", "dropped before in one taking"} {
		for n := 0; n <= 2; n++ {
			often(t, edges, fmt.Sprint(what, " ", n))
		}
	}
	for bits := 0; bits < 4; bits++ {
		often(t, edges, fmt.Sprintf("mark bits of IPv4: %d 0", bits))
		often(t, edges, fmt.Sprintf("mark bits of IPv6: %d 0", bits))
	}
}

// often sees that the runs of a test met an edge.
func often(t *testing.T, edges map[string]int, edge string) {
	t.Helper()
	if edges[edge] < 10 {
		t.Errorf("these runs met the edge %q only %d times", edge, edges[edge])
	}
}

// A bucket that waits too long is emptied by floods of short frames in other buckets, not by giving up frames.
func TestFloodsAgainstModel(t *testing.T) {
	d := &dice{5}
	edges := map[string]int{}
	for round := 0; round < 300; round++ {
		c := brisk(d)
		c.Buckets, c.Packets, c.ECN = 2, 3+d.roll(6), false
		c.Target, c.Interval = 1+d.roll(10), 10+d.roll(80)
		w := pair(t, c, edges)
		long, short := in(t, c, 0, c.Length), in(t, c, 1, 1)
		for i := 0; i < 20; i++ {
			for n := d.roll(30); n > 0; n-- {
				w.arrive(long)
				w.advance(d.roll(20))
			}
			for n := d.roll(2) * c.Packets; n > 0; n-- {
				w.arrive(short)
			}
			w.advance(d.roll(80))
			w.look()
		}
	}
	often(t, edges, "empty while DROPPING 0")
	often(t, edges, "empty while ABOVE is a time 0")
}
