package port_test

import (
	"fmt"
	"testing"

	"fairlink/api"
	"fairlink/port"
)

// ip makes an IPv4 frame of n bytes with protocol 17.
func ip(n int) string {
	b := make([]byte, n)
	b[0], b[3], b[8], b[9], b[12], b[15], b[16], b[19] = 0x45, byte(n), 9, 17, 10, 1, 10, 2
	sum := 0
	for i := 0; i < 20; i += 2 {
		sum += int(b[i])<<8 + int(b[i+1])
	}
	sum = sum%0x10000 + sum/0x10000
	b[10], b[11] = byte(^sum>>8), byte(^sum)
	return string(b)
}

func TestExample1(t *testing.T) {
	p := open(t, easy())
	arrive(t, p, ip(60), 0, "[0S0.0/60]")
	arrive(t, p, ip(60), 1, "[]")
	arrive(t, p, ip(60), 2, "[]")
	advance(t, p, 60, "[60S1.0/60]")
	advance(t, p, 60, "[120S2.0/60]")
	advance(t, p, 60, "[]")
	counts(t, p, 3, 3, 0, 0, 0, 0, 180)
}

func TestExample2(t *testing.T) {
	p := open(t, easy())
	advance(t, p, 7, "[]")
	arrive(t, p, ip(20), 0, "[7S0.0/20]")
	advance(t, p, 20, "[]")
	now(t, p, 27, false)
}

func TestExample3(t *testing.T) {
	c := easy()
	c.Packets, c.Memory, c.Tau = 3, 400, 3
	p := open(t, c)
	arrive(t, p, ip(50), 0, "[0S0.0/50]")
	for id := 1; id <= 3; id++ {
		arrive(t, p, ip(50), id, "[]")
	}
	held(t, p, 3, 342)
	arrive(t, p, ip(50), 4, "[0O1.0/50]")
	held(t, p, 3, 342)
}

func TestExample5(t *testing.T) {
	refuses(t, changed(easy(), []change{{"Target", 0}}))
	refuses(t, changed(easy(), []change{{"Memory", 123}}))
	c := easy()
	c.Key = key[:15]
	refuses(t, c)
	p := open(t, easy())
	if id, l, e := p.Arrive(""); id != -1 || l != nil || e != api.ErrEmpty {
		t.Errorf(`Arrive(""): %d, %s, %v`, id, full(l), e)
	}
	if l, e := p.Advance(-1); l != nil || e != api.ErrClock {
		t.Errorf("Advance(-1): %s, %v", full(l), e)
	}
}

// The example of README.md.
func Example() {
	p, e := port.New(api.Config{
		Buckets: 1, Quantum: 60, Packets: 20, Memory: 4000, Length: 60,
		Target: 500, Interval: 10000, Tau: 1, Key: "0123456789abcdef",
	})
	if e != api.OK {
		fmt.Println(e)
		return
	}
	p.Arrive("a first frame")
	number, _, _ := p.Arrive("a second")
	frames, memory := p.Held()
	fmt.Println(number, frames, memory)
	events, _ := p.Advance(100)
	for _, x := range events {
		fmt.Println(x.At, x.Kind == api.Sent, x.ID, x.Bucket, x.Frame)
	}
	fmt.Println(p.Counts())
	// Output:
	// 1 1 72
	// 13 true 1 0 a second
	// [2 2 0 0 0 0 21]
}
