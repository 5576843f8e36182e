package port_test

import (
	"fmt"
	"testing"

	"fairlink/api"
	"fairlink/port"
)

// model does what P4 to P6 say of one bucket as simply as can be: time goes by one unit after the other, and all sums are made when they are asked for.
type model struct {
	c      api.Config
	now    int
	left   int // units that the frame on the link still has
	queue  []api.Event
	taken  int
	events []api.Event // all that have ever happened
}

func (m *model) held() (int, int, int) {
	sum := 0
	for _, f := range m.queue {
		sum += len(f.Frame)
	}
	return len(m.queue), sum, sum + len(m.queue)*api.Over
}

func (m *model) out(kind int) {
	e := m.queue[0]
	m.queue = m.queue[1:]
	e.At, e.Kind = m.now, kind
	m.events = append(m.events, e)
	if kind == api.Sent {
		m.left = len(e.Frame) * m.c.Tau
	}
}

func (m *model) arrive(frame string) {
	m.queue = append(m.queue, api.Event{ID: m.taken, Frame: frame})
	m.taken++
	for {
		n, _, memory := m.held()
		if n <= m.c.Packets && memory <= m.c.Memory {
			break
		}
		m.out(api.Overload)
	}
	if m.left == 0 {
		m.out(api.Sent)
	}
}

func (m *model) advance(n int) {
	for ; n > 0; n-- {
		m.now++
		if m.left > 0 {
			m.left--
		}
		if m.left == 0 && len(m.queue) > 0 {
			m.out(api.Sent)
		}
	}
}

func (m *model) see() string {
	n, sum, memory := m.held()
	counts := make([]int, 7)
	counts[0] = m.taken
	for _, e := range m.events {
		counts[e.Kind]++
		if e.Kind == api.Sent {
			counts[6] += len(e.Frame)
		}
	}
	return fmt.Sprint(m.now, m.left > 0, " held ", n, memory, " backlog ", n, sum, " counts ", counts)
}

// dice is a row of numbers that look random and are the same in every run.
type dice struct{ state uint64 }

func (d *dice) roll(n int) int {
	d.state = d.state*6364136223846793005 + 1442695040888963407
	return int(d.state>>33) % n
}

func randomConfig(d *dice) api.Config {
	c := easy()
	c.Length = 20 + d.roll(181)
	c.Packets = 1 + d.roll(12)
	c.Memory = c.Length + api.Over + d.roll(1200)
	c.Quantum = 1 + d.roll(1000)
	c.Tau = 1 + d.roll(4)
	c.ECN = d.roll(2) == 1
	return c
}

func randomFrame(d *dice, length int) string {
	b := make([]byte, 1+d.roll(length))
	for i := range b {
		b[i] = byte(d.roll(256))
	}
	return string(b)
}

func playRandom(t *testing.T, d *dice, p *port.Port, m *model) {
	for i := 0; i < 200; i++ {
		before := len(m.events)
		var got []api.Event
		var e api.Errno
		if d.roll(2) == 0 {
			f := randomFrame(d, m.c.Length)
			m.arrive(f)
			var id int
			id, got, e = p.Arrive(f)
			if id != m.taken-1 {
				t.Fatalf("P4: step %d: number %d; want %d", i, id, m.taken-1)
			}
		} else {
			n := d.roll(m.c.Length * m.c.Tau * 2)
			m.advance(n)
			got, e = p.Advance(n)
		}
		var want []api.Event
		want = append(want, m.events[before:]...)
		if e != api.OK || full(got) != full(want) {
			t.Fatalf("P4, P5: %+v, step %d: %s, %v; want %s", m.c, i, show(got), e, show(want))
		}
		if see(p) != m.see() {
			t.Fatalf("P6: %+v, step %d: %s; want %s", m.c, i, see(p), m.see())
		}
	}
}

func TestAgainstModel(t *testing.T) {
	d := &dice{1}
	for round := 0; round < 200; round++ {
		c := randomConfig(d)
		playRandom(t, d, open(t, c), &model{c: c})
	}
}

// It does not matter into how many calls a time is cut.
func TestAdvanceInParts(t *testing.T) {
	d := &dice{2}
	for round := 0; round < 100; round++ {
		c := randomConfig(d)
		whole, parts := open(t, c), open(t, c)
		for i := 0; i < 8; i++ {
			f := randomFrame(d, c.Length)
			whole.Arrive(f)
			parts.Arrive(f)
		}
		sum := 0
		var got []api.Event
		for i := 0; i < 50; i++ {
			n := d.roll(40)
			sum += n
			l, _ := parts.Advance(n)
			got = append(got, l...)
		}
		want, _ := whole.Advance(sum)
		if full(got) != full(want) || see(whole) != see(parts) {
			t.Fatalf("P5: in parts %s, %s; at once %s, %s", show(got), see(parts), show(want), see(whole))
		}
	}
}
