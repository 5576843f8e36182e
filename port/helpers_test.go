package port_test

import (
	"fmt"
	"strings"
	"testing"

	"fairlink/api"
	"fairlink/port"
)

const (
	leastInt    = -1 << 63
	greatestInt = 1<<63 - 1
	key         = "0123456789abcdef"
)

// easy is a configuration of one bucket in which no frame of these tests waits as long as Target.
func easy() api.Config {
	return api.Config{Buckets: 1, Quantum: 60, Packets: 20, Memory: 4000, Length: 60, Target: api.MaxSpan, Interval: api.MaxSpan, Tau: 1, Key: key}
}

func open(t *testing.T, c api.Config) *port.Port {
	t.Helper()
	p, e := port.New(c)
	if p == nil || e != api.OK {
		t.Fatalf("New(%+v): %v, %v", c, p, e)
	}
	return p
}

// filled makes a frame of n bytes whose first byte tells it from others.
func filled(first byte, n int) string {
	return string([]byte{first}) + strings.Repeat("\xff", n-1)
}

// show writes events as the document's examples do.
func show(l []api.Event) string {
	words := []string{}
	for _, e := range l {
		words = append(words, fmt.Sprintf("%d%c%d.%d/%d", e.At, "?SMODF"[e.Kind], e.ID, e.Bucket, len(e.Frame)))
	}
	return "[" + strings.Join(words, " ") + "]"
}

// full writes events with all their bytes, and tells a list that is nil from one that is empty.
func full(l []api.Event) string {
	if l == nil {
		return "nil"
	}
	return fmt.Sprintf("%#v", l)
}

// see tells all that a port answers when it is only asked.
func see(p *port.Port) string {
	now, busy := p.Now()
	frames, memory := p.Held()
	text := fmt.Sprint(now, busy, " held ", frames, memory, " backlog")
	for b := -1; b <= api.MaxBuckets; b++ {
		k, sum := p.Backlog(b)
		text += fmt.Sprint(" ", k, ",", sum)
	}
	return text + fmt.Sprint(" counts ", p.Counts())
}

func arrive(t *testing.T, p *port.Port, frame string, id int, want string) []api.Event {
	t.Helper()
	got, l, e := p.Arrive(frame)
	if got != id || show(l) != want || e != api.OK {
		t.Errorf("Arrive of %d bytes: %d, %s, %v; want %d, %s, OK", len(frame), got, show(l), e, id, want)
	}
	if want == "[]" && l != nil {
		t.Errorf("Arrive: no event, but the list is not nil")
	}
	return l
}

func advance(t *testing.T, p *port.Port, n int, want string) []api.Event {
	t.Helper()
	l, e := p.Advance(n)
	if show(l) != want || e != api.OK {
		t.Errorf("Advance(%d): %s, %v; want %s, OK", n, show(l), e, want)
	}
	if want == "[]" && l != nil {
		t.Errorf("Advance(%d): no event, but the list is not nil", n)
	}
	return l
}

func now(t *testing.T, p *port.Port, at int, busy bool) {
	t.Helper()
	gotAt, gotBusy := p.Now()
	if gotAt != at || gotBusy != busy {
		t.Errorf("Now: %d, %v; want %d, %v", gotAt, gotBusy, at, busy)
	}
}

func held(t *testing.T, p *port.Port, frames, memory int) {
	t.Helper()
	gotFrames, gotMemory := p.Held()
	if gotFrames != frames || gotMemory != memory {
		t.Errorf("Held: %d, %d; want %d, %d", gotFrames, gotMemory, frames, memory)
	}
}

func backlog(t *testing.T, p *port.Port, b, frames, bytes int) {
	t.Helper()
	gotFrames, gotBytes := p.Backlog(b)
	if gotFrames != frames || gotBytes != bytes {
		t.Errorf("Backlog(%d): %d, %d; want %d, %d", b, gotFrames, gotBytes, frames, bytes)
	}
}

func counts(t *testing.T, p *port.Port, want ...int) {
	t.Helper()
	got := p.Counts()
	if fmt.Sprint(got) != fmt.Sprint(want) {
		t.Errorf("Counts: %v; want %v", got, want)
	}
}
