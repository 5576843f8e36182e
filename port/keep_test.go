package port_test

import (
	"fmt"
	"strings"
	"testing"

	"fairlink/api"
	"fairlink/port"
)

// step is one call: Arrive of so many bytes; where bytes is 0, Advance; where it is below 0, Configure or Reset.
type step struct{ bytes, units int }

// plain meets an idle and a busy link, and drops of none, one and several frames, one such call after the other.
var plain = []step{
	{60, 0}, {30, 0}, {0, 10}, {1, 0}, {20, 0}, {40, 0}, {0, 50}, {0, 0}, {7, 0}, {0, 29}, {0, 1}, {0, 5}, {60, 0}, {0, 300}, {9, 0}, {0, 8}, {3, 0}, {0, 1},
	{1, 0}, {1, 0}, {1, 0}, {200, 0}, {9, 0}, {200, 0}, {1, 0}, {1, 0}, {1, 0}, {200, 0}, {0, 400}, {5, 0}, {5, 0}, {5, 0}, {0, 20}, {0, 20},
}

// journey is plain, then plain again with changes in between: each change comes at several places, and most of them twice running.
var journey = winding()

func winding() []step {
	list := append([]step{}, plain...)
	for round := 0; round < 3; round++ {
		for i, s := range plain {
			list = append(list, s)
			if i%2 == 1 {
				n := -1 - (i/2+3*round)%8
				list = append(list, step{n, 0}, step{n, 0})
			}
		}
	}
	return list
}

// alters makes a change to a port that was made of a configuration.
func alters(p *port.Port, c api.Config, n int) ([]api.Event, api.Errno) {
	switch n {
	case 1:
		return p.Configure(changed(c, []change{{"Packets", 1}, {"Quantum", 3}, {"Tau", 2}}))
	case 2:
		return p.Configure(changed(c, []change{{"Memory", 264}, {"Quantum", 90}}))
	case 3:
		return p.Configure(changed(c, []change{{"Target", 1}, {"Interval", 2}, {"Packets", 64}, {"Memory", 20000}}))
	case 4:
		return p.Configure(changed(c, []change{{"Buckets", 3}}))
	case 5:
		return p.Reset(key)
	case 6:
		return p.Reset(otherKey)
	}
	return p.Configure(c)
}

// travels is the frame of the i-th call; some long ones can be marked.
func travels(i, n int) string {
	if n == 200 && i%2 == 1 {
		return ecn(2, n)
	}
	return filled(byte(i), n)
}

// take makes the i-th call to a port that was made of a configuration: its answer in words, and the list of it.
func take(p *port.Port, c api.Config, i int, s step) (string, []api.Event) {
	if s.bytes < 0 {
		l, e := alters(p, c, -s.bytes)
		return fmt.Sprintf("%s %v", full(l), e), l
	}
	if s.bytes > 0 {
		id, l, e := p.Arrive(travels(i, s.bytes))
		return fmt.Sprintf("%d %s %v", id, full(l), e), l
	}
	l, e := p.Advance(s.units)
	return fmt.Sprintf("%s %v", full(l), e), l
}

// same makes the i-th call to a port and to its twin.
func same(t *testing.T, p, twin *port.Port, c api.Config, i int) []api.Event {
	t.Helper()
	got, l := take(p, c, i, journey[i])
	want, _ := take(twin, c, i, journey[i])
	if got != want {
		t.Errorf("P1, P2: step %d: %s; the twin: %s", i, got, want)
	}
	looks(t, p, twin, i)
	return l
}

func looks(t *testing.T, p, twin *port.Port, i int) {
	t.Helper()
	if got, want := see(p), see(twin); got != want {
		t.Errorf("P1, P2: step %d: %s; the twin: %s", i, got, want)
	}
}

func tight() api.Config {
	c := easy()
	c.Packets, c.Memory, c.Length = 3, 264, 200
	return c
}

// spread is tight with several buckets: the frames of the journey are of many flows.
func spread() api.Config {
	c := tight()
	c.Buckets, c.Quantum, c.Memory = 5, 7, 400
	return c
}

// late is a configuration in which frames of the journey are dropped and marked for their delay.
func late() api.Config {
	c := tight()
	c.Packets, c.Memory, c.Target, c.Interval, c.ECN = 64, 16000, 1, 1, true
	return c
}

func every() []api.Config {
	return []api.Config{tight(), spread(), late()}
}

// The journeys meet each kind of event, several at once, and no error.
func TestJourneys(t *testing.T) {
	most := make([]int, 6)
	for _, c := range every() {
		p := open(t, c)
		for i, s := range journey {
			answer, l := take(p, c, i, s)
			if !strings.HasSuffix(answer, " OK") {
				t.Errorf("step %d: %s", i, answer)
			}
			var kinds [6]int
			for _, e := range l {
				kinds[e.Kind]++
			}
			for k, n := range kinds {
				most[k] = max(most[k], n)
			}
		}
	}
	if most[api.Sent] < 2 || most[api.Marked] == 0 || most[api.Overload] < 2 || most[api.Delayed] == 0 || most[api.Flushed] < 2 {
		t.Errorf("the journeys met %v of the kinds at once", most)
	}
}

// wrong makes all the calls that are refused whatever has been before.
func wrong(t *testing.T, p *port.Port) {
	t.Helper()
	for _, f := range []string{"", filled('x', 201), strings.Repeat("x", 1<<16)} {
		if id, l, e := p.Arrive(f); id != -1 || l != nil || e == api.OK {
			t.Errorf("P4: Arrive of %d bytes: %d, %s, %v", len(f), id, full(l), e)
		}
	}
	for _, n := range []int{-1, leastInt, api.MaxTime + 1, greatestInt} {
		if l, e := p.Advance(n); l != nil || e != api.ErrClock {
			t.Errorf("P5: Advance(%d): %s, %v", n, full(l), e)
		}
	}
	for _, c := range unsound() {
		if l, e := p.Configure(c); l != nil || e != api.ErrConfig {
			t.Errorf("P10: Configure(%+v): %s, %v", c, full(l), e)
		}
	}
	for _, k := range wrongKeys() {
		if l, e := p.Reset(k); l != nil || e != api.ErrConfig {
			t.Errorf("P11: Reset of %d bytes: %s, %v", len(k), full(l), e)
		}
	}
}

// A port to which wrong calls are made all the time does what its twin does, to which none are made.
func TestWrongCallsChangeNothing(t *testing.T) {
	for _, c := range every() {
		p := open(t, c)
		twin := open(t, c)
		for i := range journey {
			wrong(t, p)
			looks(t, p, twin, i)
			same(t, p, twin, c, i)
		}
	}
}

// Calls at all kinds of numbers and strings, in all states, end without a panic.
func TestEveryCallEnds(t *testing.T) {
	numbers := []int{leastInt, leastInt + 1, -1 << 32, -1, 0, 1, 15, 16, 17, 63, 64, 65, 1 << 32, api.MaxTime - 1, api.MaxTime, api.MaxTime + 1, greatestInt}
	texts := []string{"", "\x00", "\x45", "\x60", key, filled('\x45', 20), filled('\x60', 40), filled(0, 60), filled(0, 61), strings.Repeat("\xff", 1<<20)}
	for _, first := range numbers {
		for _, packets := range []int{1, 64} {
			c := easy()
			c.Packets, c.Buckets, c.ECN = packets, 1+packets%17, true
			c.Target, c.Interval = 1, packets
			p := open(t, c)
			for i := 0; i < 3; i++ {
				for _, s := range texts {
					p.Arrive(s)
				}
				p.Advance(first)
				for _, n := range numbers {
					p.Backlog(n)
				}
				p.Now()
				p.Held()
				p.Counts()
			}
			for _, n := range numbers {
				p.Advance(n)
			}
		}
	}
}

// Configure and Reset, too.
func TestConfigureAndResetEnd(t *testing.T) {
	numbers := []int{leastInt, -1, 0, 1, 16, 20, 64, 200, 264, 1000, api.MaxSpan, api.MaxTime, greatestInt}
	for _, n := range numbers {
		for _, k := range append(rightKeys(), wrongKeys()...) {
			p := open(t, easy())
			p.Arrive("on the link")
			p.Arrive("waits")
			p.Configure(api.Config{Buckets: n, Quantum: n, Packets: n, Memory: n, Length: n, Target: n, Interval: n, Tau: n, Key: k})
			for _, field := range []string{"Buckets", "Quantum", "Packets", "Memory", "Length", "Target", "Interval", "Tau"} {
				p.Arrive("waits")
				c := changed(easy(), []change{{field, n}})
				p.Configure(c)
				c.Key = k
				p.Arrive("waits")
				p.Configure(c)
			}
			p.Reset(k)
			p.Arrive("later")
			p.Advance(1000)
			p.Reset(k)
		}
	}
}

// Ports that are used in turn answer what each would alone.
func TestPortsKnowNothingOfEachOther(t *testing.T) {
	for _, c := range every() {
		var alone []string
		p := open(t, c)
		for i, s := range journey {
			answer, _ := take(p, c, i, s)
			alone = append(alone, answer+see(p))
		}
		p = open(t, c)
		other := open(t, spread())
		for i, s := range journey {
			take(other, spread(), i+100, step{13, 0})
			take(other, spread(), i+100, step{0, 5})
			take(other, spread(), i+100, step{-1 - i*7/3%8, 0})
			answer, _ := take(p, c, i, s)
			if got := answer + see(p); got != alone[i] {
				t.Errorf("P2: step %d: %s; alone: %s", i, got, alone[i])
			}
		}
	}
}

// spoilt is what a caller lays into the i-th list that it got: it differs from list to list, so that two lists with one memory would show.
func spoilt(i int) api.Event {
	return api.Event{At: -i, Kind: -7, ID: -7, Bucket: -7, Frame: "spoilt"}
}

func spoilEvents(l []api.Event, i int) []api.Event {
	l = l[:cap(l)]
	for k := range l {
		l[k] = spoilt(i)
	}
	return l
}

func spoilCounts(l []int, i int) []int {
	l = l[:cap(l)]
	for k := range l {
		l[k] = -i
	}
	return l
}

// Whatever the caller does to its lists, and to the room behind them, the port goes on as its twin, and leaves the lists alone.
func TestListsAreTheCallers(t *testing.T) {
	for _, c := range every() {
		p := open(t, c)
		twin := open(t, c)
		var lists [][]api.Event
		var sums [][]int
		for i := range journey {
			l := same(t, p, twin, c, i)
			lists = append(lists, spoilEvents(l, i+1))
			sums = append(sums, spoilCounts(p.Counts(), i+1))
			looks(t, p, twin, i)
		}
		stillSpoilt(t, lists, sums)
	}
}

func stillSpoilt(t *testing.T, lists [][]api.Event, sums [][]int) {
	t.Helper()
	for i := range lists {
		for _, e := range lists[i] {
			if e != spoilt(i+1) {
				t.Errorf("P2: the list of step %d was written again: %v", i, e)
			}
		}
		for _, n := range sums[i] {
			if n != -i-1 {
				t.Errorf("P2: the counts of step %d were written again: %v", i, sums[i])
			}
		}
	}
}
