package port_test

import (
	"fmt"
	"strings"
	"testing"

	"fairlink/api"
	"fairlink/port"
)

func TestExample1(t *testing.T) {
	p := open(t, easy())
	arrive(t, p, ip(60), 0, "[0S0.0/60]")
	arrive(t, p, ip(60), 1, "[]")
	arrive(t, p, ip(60), 2, "[]")
	advance(t, p, 60, "[60S1.0/60]")
	advance(t, p, 60, "[120S2.0/60]")
	advance(t, p, 60, "[]")
	counts(t, p, 3, 3, 0, 0, 0, 0, 180)
}

func TestExample2(t *testing.T) {
	p := open(t, easy())
	advance(t, p, 7, "[]")
	arrive(t, p, ip(20), 0, "[7S0.0/20]")
	advance(t, p, 20, "[]")
	now(t, p, 27, false)
}

func TestExample3(t *testing.T) {
	c := easy()
	c.Packets, c.Memory, c.Tau = 3, 400, 3
	p := open(t, c)
	arrive(t, p, ip(50), 0, "[0S0.0/50]")
	for id := 1; id <= 3; id++ {
		arrive(t, p, ip(50), id, "[]")
	}
	held(t, p, 3, 342)
	arrive(t, p, ip(50), 4, "[0O1.0/50]")
	held(t, p, 3, 342)
}

func TestExample5(t *testing.T) {
	refuses(t, changed(easy(), []change{{"Target", 0}}))
	refuses(t, changed(easy(), []change{{"Memory", 123}}))
	c := easy()
	c.Key = key[:15]
	refuses(t, c)
	p := open(t, easy())
	if id, l, e := p.Arrive(""); id != -1 || l != nil || e != api.ErrEmpty {
		t.Errorf(`Arrive(""): %d, %s, %v`, id, full(l), e)
	}
	if l, e := p.Advance(-1); l != nil || e != api.ErrClock {
		t.Errorf("Advance(-1): %s, %v", full(l), e)
	}
}

func TestExample4(t *testing.T) {
	c := easy()
	c.Buckets = 16
	for _, x := range []struct {
		protocol byte
		from     int
		bucket   int
	}{{17, 775, 6}, {17, 776, 13}, {6, 775, 2}, {1, 775, 4}, {1, 776, 4}, {1, 0, 4}, {1, 65535, 4}} {
		goesTo(t, c, string(ipv4(60, x.protocol, x.from)), x.bucket)
	}
	goesTo(t, c, strings.Repeat("\xff", 30), 12)
}

func TestExample11(t *testing.T) {
	c := easy()
	c.Buckets, c.Quantum = 2, 20
	p := open(t, c)
	long := in(t, c, 0, 60)
	short := in(t, c, 1, 20)
	arrive(t, p, long, 0, "[0S0.0/60]")
	arrive(t, p, short, 1, "[]")
	for id := 2; id < 8; id += 2 {
		arrive(t, p, long, id, "[]")
		arrive(t, p, short, id+1, "[]")
	}
	arrive(t, p, in(t, c, 1, 60), 8, "[]")
	arrive(t, p, short, 9, "[]")
	advance(t, p, 1000, "[60S1.1/20 80S3.1/20 100S5.1/20 120S2.0/60 180S7.1/20 200S8.1/60 260S4.0/60 320S9.1/20 340S6.0/60]")
}

func TestExample6(t *testing.T) {
	p := atOnce(t, hurried(), times(12, 60)...)
	advance(t, p, 299, "[60S1.0/60 120S2.0/60 180S3.0/60 240S4.0/60]")
	advance(t, p, 1, "[300D5.0/60 300S6.0/60]")
	advance(t, p, 1000, "[360S7.0/60 420S8.0/60 480S9.0/60 540S10.0/60 600S11.0/60]")
	counts(t, p, 12, 11, 0, 0, 1, 0, 660)
}

func TestExample7(t *testing.T) {
	c := hurried()
	c.ECN = true
	p := open(t, c)
	for i := 0; i < 12; i++ {
		p.Arrive(ecn(1, 60))
	}
	advance(t, p, 299, "[60S1.0/60 120S2.0/60 180S3.0/60 240S4.0/60]")
	advance(t, p, 60, "[300M5.0/60]")
	l := advance(t, p, 1000, "[360S6.0/60 420S7.0/60 480S8.0/60 540M9.0/60 600S10.0/60 660S11.0/60]")
	for _, e := range l {
		want := ecn(1, 60)
		if e.Kind == api.Marked {
			want = ecn(3, 60)
		}
		if e.Frame != want {
			t.Errorf("P9: %s", full([]api.Event{e}))
		}
	}
	counts(t, p, 12, 10, 2, 0, 0, 0, 720)
}

func TestExample9(t *testing.T) {
	c := easy()
	c.Buckets = 4
	p := open(t, c)
	arrive(t, p, in(t, c, 1, 60), 0, "[0S0.1/60]")
	arrive(t, p, in(t, c, 1, 60), 1, "[]")
	arrive(t, p, in(t, c, 1, 60), 2, "[]")
	arrive(t, p, in(t, c, 2, 60), 3, "[]")
	c.Buckets = 2
	configure(t, p, c, "[0F1.1/60 0F2.1/60 0F3.2/60]")
	advance(t, p, 59, "[]")
	now(t, p, 59, true)
	advance(t, p, 1, "[]")
	now(t, p, 60, false)
}

func TestExample10(t *testing.T) {
	p := open(t, easy())
	arrive(t, p, ip(60), 0, "[0S0.0/60]")
	arrive(t, p, ip(60), 1, "[]")
	arrive(t, p, ip(60), 2, "[]")
	reset(t, p, otherKey, "[0F1.0/60 0F2.0/60]")
	counts(t, p, 3, 0, 0, 0, 0, 0, 0)
	arrive(t, p, ip(60), 3, "[]")
}

// The example of README.md.
func Example() {
	p, e := port.New(api.Config{
		Buckets: 1, Quantum: 60, Packets: 20, Memory: 4000, Length: 60,
		Target: 500, Interval: 10000, Tau: 1, Key: "0123456789abcdef",
	})
	if e != api.OK {
		fmt.Println(e)
		return
	}
	p.Arrive("a first frame")
	number, _, _ := p.Arrive("a second")
	frames, memory := p.Held()
	fmt.Println(number, frames, memory)
	events, _ := p.Advance(100)
	for _, x := range events {
		fmt.Println(x.At, x.Kind == api.Sent, x.ID, x.Bucket, x.Frame)
	}
	fmt.Println(p.Counts())
	// Output:
	// 1 1 72
	// 13 true 1 0 a second
	// [2 2 0 0 0 0 21]
}
