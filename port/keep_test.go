package port_test

import (
	"fmt"
	"strings"
	"testing"

	"fairlink/api"
	"fairlink/port"
)

// step is one call: Arrive of so many bytes, or, where bytes is 0, Advance.
type step struct{ bytes, units int }

// journey meets an idle and a busy link, and drops of none, one and several frames, one such call after the other.
var journey = []step{
	{60, 0}, {30, 0}, {0, 10}, {1, 0}, {20, 0}, {40, 0}, {0, 50}, {0, 0}, {7, 0}, {0, 29}, {0, 1}, {0, 5}, {60, 0}, {0, 300}, {9, 0}, {0, 8}, {3, 0}, {0, 1},
	{1, 0}, {1, 0}, {1, 0}, {200, 0}, {9, 0}, {200, 0}, {1, 0}, {1, 0}, {1, 0}, {200, 0}, {0, 400}, {5, 0}, {5, 0}, {5, 0}, {0, 20}, {0, 20},
}

// travels is the frame of the i-th call; some long ones can be marked.
func travels(i, n int) string {
	if n == 200 && i%2 == 1 {
		return ecn(2, n)
	}
	return filled(byte(i), n)
}

// take makes the i-th call: its answer in words, and the list of it.
func take(p *port.Port, i int, s step) (string, []api.Event) {
	if s.bytes > 0 {
		id, l, e := p.Arrive(travels(i, s.bytes))
		return fmt.Sprintf("%d %s %v", id, full(l), e), l
	}
	l, e := p.Advance(s.units)
	return fmt.Sprintf("%s %v", full(l), e), l
}

// same makes the i-th call to a port and to its twin.
func same(t *testing.T, p, twin *port.Port, i int) []api.Event {
	t.Helper()
	got, l := take(p, i, journey[i])
	want, _ := take(twin, i, journey[i])
	if got != want {
		t.Errorf("P1, P2: step %d: %s; the twin: %s", i, got, want)
	}
	looks(t, p, twin, i)
	return l
}

func looks(t *testing.T, p, twin *port.Port, i int) {
	t.Helper()
	if got, want := see(p), see(twin); got != want {
		t.Errorf("P1, P2: step %d: %s; the twin: %s", i, got, want)
	}
}

func tight() api.Config {
	c := easy()
	c.Packets, c.Memory, c.Length = 3, 264, 200
	return c
}

// spread is tight with several buckets: the frames of the journey are of many flows.
func spread() api.Config {
	c := tight()
	c.Buckets, c.Quantum, c.Memory = 5, 7, 400
	return c
}

// late is a configuration in which frames of the journey are dropped and marked for their delay.
func late() api.Config {
	c := tight()
	c.Packets, c.Memory, c.Target, c.Interval, c.ECN = 64, 16000, 1, 1, true
	return c
}

func every() []api.Config {
	return []api.Config{tight(), spread(), late()}
}

// The journeys meet each kind of event that there is as yet.
func TestJourneys(t *testing.T) {
	sum := make([]int, 7)
	for _, c := range every() {
		p := open(t, c)
		for i, s := range journey {
			take(p, i, s)
		}
		for k, n := range p.Counts() {
			sum[k] += n
		}
	}
	if sum[api.Sent] == 0 || sum[api.Marked] == 0 || sum[api.Overload] == 0 || sum[api.Delayed] == 0 {
		t.Errorf("the journeys met %v", sum)
	}
}

// wrong makes all the calls that are refused whatever has been before.
func wrong(t *testing.T, p *port.Port) {
	t.Helper()
	for _, f := range []string{"", filled('x', 201), strings.Repeat("x", 1<<16)} {
		if id, l, e := p.Arrive(f); id != -1 || l != nil || e == api.OK {
			t.Errorf("P4: Arrive of %d bytes: %d, %s, %v", len(f), id, full(l), e)
		}
	}
	for _, n := range []int{-1, leastInt, api.MaxTime + 1, greatestInt} {
		if l, e := p.Advance(n); l != nil || e != api.ErrClock {
			t.Errorf("P5: Advance(%d): %s, %v", n, full(l), e)
		}
	}
}

// A port to which wrong calls are made all the time does what its twin does, to which none are made.
func TestWrongCallsChangeNothing(t *testing.T) {
	for _, c := range every() {
		p := open(t, c)
		twin := open(t, c)
		for i := range journey {
			wrong(t, p)
			looks(t, p, twin, i)
			same(t, p, twin, i)
		}
	}
}

// Calls at all kinds of numbers and strings, in all states, end without a panic.
func TestEveryCallEnds(t *testing.T) {
	numbers := []int{leastInt, leastInt + 1, -1 << 32, -1, 0, 1, 15, 16, 17, 63, 64, 65, 1 << 32, api.MaxTime - 1, api.MaxTime, api.MaxTime + 1, greatestInt}
	texts := []string{"", "\x00", "\x45", "\x60", key, filled('\x45', 20), filled('\x60', 40), filled(0, 60), filled(0, 61), strings.Repeat("\xff", 1<<20)}
	for _, first := range numbers {
		for _, packets := range []int{1, 64} {
			c := easy()
			c.Packets, c.Buckets, c.ECN = packets, 1+packets%17, true
			c.Target, c.Interval = 1, packets
			p := open(t, c)
			for i := 0; i < 3; i++ {
				for _, s := range texts {
					p.Arrive(s)
				}
				p.Advance(first)
				for _, n := range numbers {
					p.Backlog(n)
				}
				p.Now()
				p.Held()
				p.Counts()
			}
			for _, n := range numbers {
				p.Advance(n)
			}
		}
	}
}

func TestConfigureAndResetEnd(t *testing.T) {
	for _, n := range []int{leastInt, -1, 0, 1, greatestInt} {
		p := open(t, easy())
		p.Arrive("on the link")
		p.Arrive("waits")
		p.Configure(api.Config{Buckets: n, Quantum: n, Packets: n, Memory: n, Length: n, Target: n, Interval: n, Tau: n})
		p.Configure(easy())
		for _, k := range []string{"", key, key + "x", strings.Repeat("k", 1<<20)} {
			p.Reset(k)
		}
		p.Arrive("later")
		p.Advance(1000)
	}
}

// Ports that are used in turn answer what each would alone.
func TestPortsKnowNothingOfEachOther(t *testing.T) {
	for _, c := range every() {
		var alone []string
		p := open(t, c)
		for i, s := range journey {
			answer, _ := take(p, i, s)
			alone = append(alone, answer+see(p))
		}
		p = open(t, c)
		other := open(t, spread())
		for i, s := range journey {
			take(other, i+100, step{13, 0})
			take(other, i+100, step{0, 5})
			answer, _ := take(p, i, s)
			if got := answer + see(p); got != alone[i] {
				t.Errorf("P2: step %d: %s; alone: %s", i, got, alone[i])
			}
		}
	}
}

// spoilt is what a caller lays into the i-th list that it got: it differs from list to list, so that two lists with one memory would show.
func spoilt(i int) api.Event {
	return api.Event{At: -i, Kind: -7, ID: -7, Bucket: -7, Frame: "spoilt"}
}

func spoilEvents(l []api.Event, i int) []api.Event {
	l = l[:cap(l)]
	for k := range l {
		l[k] = spoilt(i)
	}
	return l
}

func spoilCounts(l []int, i int) []int {
	l = l[:cap(l)]
	for k := range l {
		l[k] = -i
	}
	return l
}

// Whatever the caller does to its lists, and to the room behind them, the port goes on as its twin, and leaves the lists alone.
func TestListsAreTheCallers(t *testing.T) {
	for _, c := range every() {
		p := open(t, c)
		twin := open(t, c)
		var lists [][]api.Event
		var sums [][]int
		for i := range journey {
			l := same(t, p, twin, i)
			lists = append(lists, spoilEvents(l, i+1))
			sums = append(sums, spoilCounts(p.Counts(), i+1))
			looks(t, p, twin, i)
		}
		stillSpoilt(t, lists, sums)
	}
}

func stillSpoilt(t *testing.T, lists [][]api.Event, sums [][]int) {
	t.Helper()
	for i := range lists {
		for _, e := range lists[i] {
			if e != spoilt(i+1) {
				t.Errorf("P2: the list of step %d was written again: %v", i, e)
			}
		}
		for _, n := range sums[i] {
			if n != -i-1 {
				t.Errorf("P2: the counts of step %d were written again: %v", i, sums[i])
			}
		}
	}
}
