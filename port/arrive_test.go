package port_test

import (
	"fmt"
	"strings"
	"testing"

	"fairlink/api"
)

func TestArriveLengths(t *testing.T) {
	for _, length := range []int{20, 60, 200} {
		c := easy()
		c.Length = length
		p := open(t, c)
		for _, x := range []struct {
			bytes int
			want  api.Errno
		}{{0, api.ErrEmpty}, {length + 1, api.ErrLong}, {1 << 20, api.ErrLong}} {
			id, l, e := p.Arrive(strings.Repeat("x", x.bytes))
			if id != -1 || l != nil || e != x.want {
				t.Errorf("P4: Length %d, Arrive of %d bytes: %d, %s, %v; want -1, nil, %v", length, x.bytes, id, full(l), e, x.want)
			}
		}
		arrive(t, p, strings.Repeat("x", length), 0, fmt.Sprintf("[0S0.0/%d]", length))
		arrive(t, p, strings.Repeat("x", length-1), 1, "[]")
		arrive(t, p, "x", 2, "[]")
	}
}

// The numbers go on over frames that are dropped, and not over frames that are refused.
func TestArriveNumbers(t *testing.T) {
	c := easy()
	c.Packets = 2
	p := open(t, c)
	arrive(t, p, "zero", 0, "[0S0.0/4]")
	arrive(t, p, "one", 1, "[]")
	p.Arrive("")
	arrive(t, p, "two", 2, "[]")
	p.Arrive(filled('x', 61))
	arrive(t, p, "three", 3, "[0O1.0/3]")
	arrive(t, p, "four", 4, "[0O2.0/3]")
	advance(t, p, 4, "[4S3.0/5]")
	advance(t, p, 100, "[9S4.0/4]")
	arrive(t, p, "five", 5, "[104S5.0/4]")
}

// The events hold the frames' own bytes, whatever these are, and the frames go in the order of the queue.
func TestArriveBytes(t *testing.T) {
	c := easy()
	c.Packets = 3
	p := open(t, c)
	frames := []string{"\x00", "\x45\x00\xff", "ä\xc3", "\n\r", strings.Repeat("\x60", 60)}
	got := []api.Event{}
	for _, f := range frames {
		_, l, _ := p.Arrive(f)
		got = append(got, l...)
	}
	l, _ := p.Advance(1000)
	got = append(got, l...)
	want := []api.Event{
		{At: 0, Kind: api.Sent, ID: 0, Bucket: 0, Frame: frames[0]},
		{At: 0, Kind: api.Overload, ID: 1, Bucket: 0, Frame: frames[1]},
		{At: 1, Kind: api.Sent, ID: 2, Bucket: 0, Frame: frames[2]},
		{At: 4, Kind: api.Sent, ID: 3, Bucket: 0, Frame: frames[3]},
		{At: 6, Kind: api.Sent, ID: 4, Bucket: 0, Frame: frames[4]},
	}
	if full(got) != full(want) {
		t.Errorf("P4: %s; want %s", full(got), full(want))
	}
}

// As many frames as Packets wait beside the one on the link; with one more the first of them is dropped.
func TestPacketsJustKeptAndPassed(t *testing.T) {
	for _, packets := range []int{1, 2, 63, 64} {
		c := easy()
		c.Packets, c.Memory = packets, api.MaxMemory
		p := open(t, c)
		arrive(t, p, "a", 0, "[0S0.0/1]")
		for id := 1; id <= packets; id++ {
			arrive(t, p, "bc", id, "[]")
		}
		held(t, p, packets, packets*66)
		arrive(t, p, "def", packets+1, "[0O1.0/2]")
		held(t, p, packets, packets*66+1)
		counts(t, p, packets+2, 1, 0, 1, 0, 0, 1)
	}
}

// Memory counts each frame's bytes and Over, of the frames that wait alone.
func TestMemoryJustKeptAndPassed(t *testing.T) {
	c := easy()
	c.Memory = (10 + 64) + (20 + 64) + (30 + 64)
	p := open(t, c)
	arrive(t, p, filled('a', 60), 0, "[0S0.0/60]")
	arrive(t, p, filled('b', 10), 1, "[]")
	arrive(t, p, filled('c', 20), 2, "[]")
	arrive(t, p, filled('d', 30), 3, "[]")
	held(t, p, 3, c.Memory)

	p = open(t, c)
	arrive(t, p, filled('a', 60), 0, "[0S0.0/60]")
	arrive(t, p, filled('b', 10), 1, "[]")
	arrive(t, p, filled('c', 20), 2, "[]")
	arrive(t, p, filled('d', 31), 3, "[0O1.0/10]")
	held(t, p, 2, 84+95)
	backlog(t, p, 0, 2, 51)
}

// One frame may make many go; there is always room for itself.
func TestManyAreDroppedAtOnce(t *testing.T) {
	c := easy()
	c.Length, c.Memory = 200, 264
	p := open(t, c)
	arrive(t, p, "a", 0, "[0S0.0/1]")
	for id := 1; id <= 4; id++ {
		arrive(t, p, "b", id, "[]")
	}
	held(t, p, 4, 260)
	arrive(t, p, filled('c', 200), 5, "[0O1.0/1 0O2.0/1 0O3.0/1 0O4.0/1]")
	held(t, p, 1, 264)
	arrive(t, p, "d", 6, "[0O5.0/200]")
	held(t, p, 1, 65)
	counts(t, p, 7, 1, 0, 5, 0, 0, 1)
	advance(t, p, 1, "[1S6.0/1]")
}

// It stops dropping as soon as there is no longer too much.
func TestNoMoreAreDroppedThanMustBe(t *testing.T) {
	c := easy()
	c.Memory = 3 * 65
	p := open(t, c)
	arrive(t, p, "a", 0, "[0S0.0/1]")
	for id := 1; id <= 3; id++ {
		arrive(t, p, "b", id, "[]")
	}
	arrive(t, p, filled('c', 60), 4, "[0O1.0/1 0O2.0/1]")
	held(t, p, 2, 65+124)
}

func TestOverloadAtLaterTime(t *testing.T) {
	c := easy()
	c.Packets = 1
	p := open(t, c)
	arrive(t, p, filled('a', 60), 0, "[0S0.0/60]")
	advance(t, p, 10, "[]")
	arrive(t, p, filled('b', 60), 1, "[]")
	advance(t, p, 10, "[]")
	arrive(t, p, filled('c', 60), 2, "[20O1.0/60]")
}
