package port_test

import (
	"fmt"
	"testing"

	"fairlink/api"
	"fairlink/port"
)

// model does what P4 to P11 say as simply as can be: all sums are made when they are asked for. Of a frame that waits, At is the time at which it came.
type model struct {
	c        api.Config
	now      int
	left     int // units that the frame on the link still has
	queues   [api.MaxBuckets][]api.Event
	minds    [api.MaxBuckets]mind
	edges    map[string]int // how often the edges of P9 were met, if somebody wants to know
	deficits [api.MaxBuckets]int
	fresh    []int
	old      []int
	taken    int
	events   []api.Event // all that have ever happened
	before   int         // how many of them no longer count
}

func (m *model) backlog(b int) (int, int) {
	if b < 0 || b >= api.MaxBuckets {
		return 0, 0
	}
	sum := 0
	for _, f := range m.queues[b] {
		sum += len(f.Frame)
	}
	return len(m.queues[b]), sum
}

func (m *model) held() (int, int) {
	frames, memory := 0, 0
	for b := range m.queues {
		k, sum := m.backlog(b)
		frames += k
		memory += sum + k*api.Over
	}
	return frames, memory
}

func (m *model) fullest() int {
	best := 0
	for b := range m.queues {
		_, sum := m.backlog(b)
		if _, most := m.backlog(best); sum > most {
			best = b
		}
	}
	return best
}

// first takes the first frame out of a queue.
func (m *model) first(b int) api.Event {
	f := m.queues[b][0]
	m.queues[b] = m.queues[b][1:]
	return f
}

// happens notes what becomes of a frame now.
func (m *model) happens(kind int, f api.Event) {
	f.At, f.Kind = m.now, kind
	m.events = append(m.events, f)
}

func (m *model) listed(b int) bool {
	for _, x := range append(append([]int{}, m.fresh...), m.old...) {
		if x == b {
			return true
		}
	}
	return false
}

func (m *model) arrive(frame string) {
	b := modelBucket(m.c, frame)
	m.queues[b] = append(m.queues[b], api.Event{At: m.now, ID: m.taken, Bucket: b, Frame: frame})
	m.taken++
	if !m.listed(b) {
		m.fresh = append(m.fresh, b)
		m.deficits[b] = m.c.Quantum
	}
	m.shed()
	m.feed()
}

func (m *model) shed() {
	for {
		n, memory := m.held()
		if n <= m.c.Packets && memory <= m.c.Memory {
			return
		}
		m.happens(api.Overload, m.first(m.fullest()))
	}
}

// feed lets the link, if it is idle, take a frame.
func (m *model) feed() {
	for m.left == 0 && len(m.fresh)+len(m.old) > 0 {
		list := &m.fresh
		if len(m.fresh) == 0 {
			list = &m.old
		}
		b := (*list)[0]
		if m.deficits[b] <= 0 {
			m.deficits[b] += m.c.Quantum
			*list = (*list)[1:]
			m.old = append(m.old, b)
			continue
		}
		if f := m.giveUp(b); f != nil {
			m.deficits[b] -= len(f.Frame)
			m.left = len(f.Frame) * m.c.Tau
			m.happens(f.Kind, *f)
			continue
		}
		wasFresh := list == &m.fresh
		*list = (*list)[1:]
		if wasFresh && len(m.old) > 0 {
			m.old = append(m.old, b)
		}
	}
}

func (m *model) advance(n int) {
	for n > 0 {
		units := n
		if m.left > 0 {
			units = min(n, m.left)
			m.left -= units
		}
		m.now += units
		n -= units
		m.feed()
	}
}

func (m *model) see() string {
	n, memory := m.held()
	counts := make([]int, 7)
	counts[0] = m.taken
	for _, e := range m.events[m.before:] {
		counts[e.Kind]++
		if e.Kind == api.Sent || e.Kind == api.Marked {
			counts[6] += len(e.Frame)
		}
	}
	text := fmt.Sprint(m.now, m.left > 0, " held ", n, memory, " backlog")
	for b := -1; b <= api.MaxBuckets; b++ {
		k, sum := m.backlog(b)
		text += fmt.Sprint(" ", k, ",", sum)
	}
	return text + fmt.Sprint(" counts ", counts)
}

// dice is a row of numbers that look random and are the same in every run.
type dice struct{ state uint64 }

func (d *dice) roll(n int) int {
	d.state = d.state*6364136223846793005 + 1442695040888963407
	return int(d.state>>33) % n
}

func randomConfig(d *dice) api.Config {
	c := easy()
	c.Length = 20 + d.roll(181)
	c.Packets = 1 + d.roll(24)
	c.Memory = c.Length + api.Over + d.roll(2400)
	c.Quantum = 1 + d.roll(1000)
	if d.roll(2) == 0 {
		c.Quantum = 1 + d.roll(100)
	}
	c.Tau = 1 + d.roll(4)
	c.ECN = d.roll(2) == 1
	c.Buckets = 1 + d.roll(api.MaxBuckets)
	b := randomBytes(d, api.KeyLen)
	c.Key = string(b)
	if d.roll(4) > 0 {
		frame := c.Length * c.Tau
		c.Interval = 1 + d.roll([]int{3, 20, frame, 8 * frame}[d.roll(4)])
		c.Target = 1 + d.roll(min(c.Interval, 3*frame))
	}
	return c
}

func randomBytes(d *dice, n int) []byte {
	b := make([]byte, n)
	for i := range b {
		b[i] = byte(d.roll(256))
	}
	return b
}

// randomFrame makes a frame of any kind: IPv4 or IPv6 of few flows, either with one byte or two spoilt, or what cannot be read.
func randomFrame(d *dice, length int) string {
	n := 1 + d.roll(length)
	b := randomBytes(d, n)
	switch kind := d.roll(8); {
	case kind < 4 && n >= 20:
		b = randomIPv4(d, b)
	case kind < 7 && n >= 40:
		b = randomIPv6(d, b)
	}
	if d.roll(8) == 0 {
		b[d.roll(n)] ^= 1 << d.roll(8)
	}
	return string(b)
}

func randomIPv4(d *dice, b []byte) []byte {
	header := 20
	if len(b) > 24 && d.roll(3) == 0 {
		header = 20 + d.roll(min(60, len(b))-19)/4*4
	}
	total := len(b)
	if d.roll(4) == 0 {
		total = header + d.roll(len(b)-header+2)
	}
	b[0], b[2], b[3] = byte(0x40+header/4), byte(total>>8), byte(total)
	b[6], b[7] = 0, 0
	if d.roll(6) == 0 {
		b[6+d.roll(2)] = 1 << d.roll(8)
	}
	b[9] = []byte{6, 17, 1}[d.roll(3)]
	copy(b[12:], []byte{10, 0, 0, byte(d.roll(3)), 10, 0, 0, 9})
	if header+4 <= len(b) {
		copy(b[header:], []byte{0, byte(d.roll(3)), 0, 80})
	}
	right(b, header)
	return b
}

func randomIPv6(d *dice, b []byte) []byte {
	payload := len(b) - 40
	if d.roll(4) == 0 {
		payload = d.roll(payload + 2)
	}
	b[0], b[4], b[5] = byte(0x60+d.roll(16)), byte(payload>>8), byte(payload)
	for i := 8; i < 40; i++ {
		b[i] = byte(i)
	}
	b[20] = byte(d.roll(3))
	at, place := 6, 40
	for i := d.roll(7); i > 0 && place+8 <= len(b); i-- {
		b[at] = []byte{0, 43, 44, 60}[d.roll(4)]
		size := 8 + 8*d.roll(2)*d.roll(3)
		b[place+1] = byte(size/8 - 1)
		if b[at] == 44 {
			size = 8
		}
		at = place
		place += size
	}
	if at < len(b) {
		b[at] = []byte{6, 17, 58}[d.roll(3)]
	}
	if place+4 <= len(b) {
		copy(b[place:], []byte{0, byte(d.roll(3)), 0, 80})
	}
	return b
}

// twins is a port and its model, to which the same calls are made.
type twins struct {
	t *testing.T
	p *port.Port
	m *model
}

func pair(t *testing.T, c api.Config, edges map[string]int) twins {
	t.Helper()
	return twins{t, open(t, c), &model{c: c, edges: edges}}
}

func (w twins) arrive(f string) {
	w.t.Helper()
	before := len(w.m.events)
	w.m.arrive(f)
	id, got, e := w.p.Arrive(f)
	if id != w.m.taken-1 {
		w.t.Fatalf("P4: %#v: number %d; want %d", w.m.c, id, w.m.taken-1)
	}
	w.compare(before, got, e)
}

func (w twins) advance(n int) {
	w.t.Helper()
	before := len(w.m.events)
	w.m.advance(n)
	got, e := w.p.Advance(n)
	w.compare(before, got, e)
}

func (w twins) compare(before int, got []api.Event, e api.Errno) {
	w.t.Helper()
	var want []api.Event
	want = append(want, w.m.events[before:]...)
	if e != api.OK || full(got) != full(want) {
		w.t.Fatalf("P4, P5, P7 to P11: %#v, at %d: %s, %v; want %s", w.m.c, w.m.now, show(got), e, show(want))
	}
}

func (w twins) look() {
	w.t.Helper()
	if got, want := see(w.p), w.m.see(); got != want {
		w.t.Fatalf("P6: %#v: %s; want %s", w.m.c, got, want)
	}
}

// playRandom makes calls with at times more frames than the link can carry, at times less.
func playRandom(d *dice, w twins, calls int) {
	w.t.Helper()
	rush := 2
	for i := 0; i < calls; i++ {
		c := w.m.c
		if d.roll(20) == 0 {
			rush = 1 + d.roll(4)
		}
		if d.roll(5) < rush {
			w.arrive(randomFrame(d, c.Length))
		} else {
			w.advance(d.roll(c.Length * c.Tau * 2 / (1 + d.roll(4))))
		}
		if i%8 == 0 {
			w.look()
		}
	}
	w.look()
}

func TestAgainstModel(t *testing.T) {
	d := &dice{1}
	for round := 0; round < 400; round++ {
		playRandom(d, pair(t, randomConfig(d), nil), 200)
	}
}

// Each frame's bucket, of very many frames of all kinds.
func TestBucketsAgainstModel(t *testing.T) {
	d := &dice{3}
	c := sixteen()
	for round := 0; round < 40000; round++ {
		f := randomFrame(d, c.Length)
		goesTo(t, c, f, modelBucket(c, f))
	}
}

// It does not matter into how many calls a time is cut.
func TestAdvanceInParts(t *testing.T) {
	d := &dice{2}
	for round := 0; round < 100; round++ {
		c := randomConfig(d)
		whole, parts := open(t, c), open(t, c)
		for i := 0; i < 8; i++ {
			f := randomFrame(d, c.Length)
			whole.Arrive(f)
			parts.Arrive(f)
		}
		sum := 0
		var got []api.Event
		for i := 0; i < 50; i++ {
			n := d.roll(40)
			sum += n
			l, _ := parts.Advance(n)
			got = append(got, l...)
		}
		want, _ := whole.Advance(sum)
		if full(got) != full(want) || see(whole) != see(parts) {
			t.Fatalf("P5: in parts %s, %s; at once %s, %s", show(got), see(parts), show(want), see(whole))
		}
	}
}
