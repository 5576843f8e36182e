package port_test

import (
	"fmt"
	"testing"

	"fairlink/api"
)

// configure is P10, of a configuration that keeps the limits.
func (m *model) configure(c api.Config) {
	if c.Buckets != m.c.Buckets || c.Key != m.c.Key || c.Length != m.c.Length {
		m.flush(c)
		return
	}
	m.meetDeficits(c.Quantum)
	for b := range m.deficits {
		m.deficits[b] = min(m.deficits[b], c.Quantum)
	}
	m.c = c
	before := len(m.events)
	m.shed()
	m.meetDrops(m.events[before:])
}

func (m *model) flush(c api.Config) {
	for b := range m.queues {
		for len(m.queues[b]) > 0 {
			m.happens(api.Flushed, m.first(b))
		}
	}
	empty := model{c: c, now: m.now, left: m.left, edges: m.edges, taken: m.taken, events: m.events, before: m.before}
	*m = empty
}

// reset is P11, of a key of KeyLen bytes.
func (m *model) reset(key string) {
	c := m.c
	c.Key = key
	m.flush(c)
	m.before = len(m.events)
}

// meetDeficits notes how the deficits of buckets with frames lie to a new Quantum.
func (m *model) meetDeficits(quantum int) {
	for b := range m.deficits {
		if len(m.queues[b]) == 0 {
			continue
		}
		m.met("deficit less new Quantum", m.deficits[b]-quantum)
		if m.deficits[b] < 0 {
			m.met("deficit below 0", 0)
		}
	}
}

// meetDrops notes from what buckets frames were dropped for a new configuration.
func (m *model) meetDrops(l []api.Event) {
	m.met("dropped for less room", min(len(l), 2))
	for _, e := range l {
		if m.minds[e.Bucket].dropping {
			m.met("dropped for less room while DROPPING", 0)
		}
		if m.minds[e.Bucket].above != nil {
			m.met("dropped for less room while ABOVE is a time", 0)
		}
	}
}

func (w twins) configure(c api.Config) {
	w.t.Helper()
	before := len(w.m.events)
	w.m.configure(c)
	got, e := w.p.Configure(c)
	w.compare(before, got, e)
	w.look()
}

func (w twins) reset(key string) {
	w.t.Helper()
	before := len(w.m.events)
	w.m.reset(key)
	got, e := w.p.Reset(key)
	w.compare(before, got, e)
	w.look()
}

// refused makes a call that is refused, of which the model knows nothing.
func (w twins) refused(d *dice) {
	w.t.Helper()
	list := unsound()
	c := list[d.roll(len(list))]
	if got, e := w.p.Configure(c); got != nil || e != api.ErrConfig {
		w.t.Fatalf("P10: Configure(%+v): %s, %v", c, full(got), e)
	}
	keys := wrongKeys()
	k := keys[d.roll(len(keys))]
	if got, e := w.p.Reset(k); got != nil || e != api.ErrConfig {
		w.t.Fatalf("P11: Reset of %d bytes: %s, %v", len(k), full(got), e)
	}
	w.look()
}

// retuned is a configuration that differs in one thing or a few, but for Buckets, Key and Length. Its Quantum is often near a deficit.
func (m *model) retuned(d *dice) api.Config {
	c := m.c
	for i := d.roll(3); i >= 0; i-- {
		switch d.roll(6) {
		case 0:
			near := m.deficits[d.roll(c.Buckets)] + d.roll(3) - 1
			c.Quantum = min(max(near, 1), api.MaxQuantum)
		case 1:
			c.Quantum = 1 + d.roll(100)
		case 2:
			c.Packets = 1 + d.roll(64)
		case 3:
			c.Memory = c.Length + api.Over + d.roll(2400)
		case 4:
			c.Tau, c.ECN = 1+d.roll(3), d.roll(2) == 0
		case 5:
			c.Interval = 1 + d.roll([]int{2, 10, 100, 300}[d.roll(4)])
			c.Target = 1 + d.roll(min(c.Interval, 20))
		}
	}
	return c
}

// changeRandom makes one change of any kind.
func changeRandom(d *dice, w twins) {
	w.t.Helper()
	c := w.m.c
	switch d.roll(20) {
	case 0:
		c.Buckets = 1 + d.roll(api.MaxBuckets)
		w.configure(c)
	case 1:
		c.Key = string(randomBytes(d, api.KeyLen))
		w.configure(c)
	case 2:
		c.Length = 20 + d.roll(40)
		c.Memory = max(c.Memory, c.Length+api.Over)
		w.configure(c)
	case 3:
		w.configure(brisk(d))
	case 4:
		w.reset(string(randomBytes(d, api.KeyLen)))
	case 5:
		w.reset(c.Key)
	case 6, 7:
		w.refused(d)
	case 8:
		w.configure(c)
	default:
		w.configure(w.m.retuned(d))
	}
}

func TestChangesAgainstModel(t *testing.T) {
	d := &dice{6}
	edges := map[string]int{}
	for round := 0; round < 300; round++ {
		w := pair(t, brisk(d), edges)
		for i := 0; i < 30; i++ {
			playRandom(d, w, 1+d.roll(40))
			changeRandom(d, w)
		}
		playRandom(d, w, 40)
	}
	for n := -1; n <= 2; n++ {
		often(t, edges, fmt.Sprint("deficit less new Quantum ", n))
	}
	for n := 0; n <= 2; n++ {
		often(t, edges, fmt.Sprint("dropped for less room ", n))
	}
	for _, what := range []string{"deficit below 0", "dropped for less room while DROPPING", "dropped for less room while ABOVE is a time"} {
		often(t, edges, what+" 0")
	}
}
