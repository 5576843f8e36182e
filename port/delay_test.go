package port_test

import (
	"fmt"
	"strings"
	"testing"

	"fairlink/api"
	"fairlink/port"
)

// hurried is a configuration of one bucket in which frames soon wait too long.
func hurried() api.Config {
	c := easy()
	c.Packets, c.Memory, c.Target, c.Interval = 64, 16000, 50, 200
	return c
}

// ecn is an IPv4 frame of n bytes with these mark bits.
func ecn(bits byte, n int) string {
	b := ipv4(n, 17, 0)
	b[1] = bits
	right(b, 20)
	return string(b)
}

// atOnce makes a port at which frames of such lengths arrive at 0.
func atOnce(t *testing.T, c api.Config, lengths ...int) *port.Port {
	t.Helper()
	p := open(t, c)
	for id, n := range lengths {
		want := "[]"
		if id == 0 {
			want = fmt.Sprintf("[0S0.0/%d]", n)
		}
		arrive(t, p, variant(0, n), id, want)
	}
	return p
}

// times is a list of n lengths.
func times(n, length int) []int {
	l := make([]int, n)
	for i := range l {
		l[i] = length
	}
	return l
}

// A frame has waited Target, or one less, when the link takes it.
func TestWaitOfTarget(t *testing.T) {
	for _, x := range []struct {
		target int
		want   string
	}{
		{1, "[300D5.0/60 300S6.0/60]"}, {59, "[300D5.0/60 300S6.0/60]"}, {60, "[300D5.0/60 300S6.0/60]"}, {61, "[300S5.0/60]"}, {200, "[300S5.0/60]"},
	} {
		c := hurried()
		c.Target = x.target
		p := atOnce(t, c, times(12, 60)...)
		advance(t, p, 299, "[60S1.0/60 120S2.0/60 180S3.0/60 240S4.0/60]")
		advance(t, p, 1, x.want)
	}
}

// A frame that has waited one less than Target, in between: ABOVE is nothing again.
func TestShortWaitInBetween(t *testing.T) {
	for _, x := range []struct {
		came int
		want string
	}{{80, "[240D4.0/60 240S5.0/60]"}, {81, "[240S4.0/60]"}} {
		c := hurried()
		c.Target, c.Interval = 100, 120
		p := atOnce(t, c, 60, 60, 60)
		advance(t, p, x.came, "[60S1.0/60]")
		for id := 3; id < 10; id++ {
			arrive(t, p, ip(60), id, "[]")
		}
		advance(t, p, 180-x.came, "[120S2.0/60 180S3.0/60]") // ABOVE is 240 from 120 on
		advance(t, p, 60, x.want)
	}
}

// Just Length bytes are left behind, or one more.
func TestBytesLeftBehind(t *testing.T) {
	p := atOnce(t, hurried(), times(7, 60)...)
	advance(t, p, 299, "[60S1.0/60 120S2.0/60 180S3.0/60 240S4.0/60]")
	advance(t, p, 1, "[300S5.0/60]")
	p = atOnce(t, hurried(), append(times(6, 60), 59, 1)...)
	advance(t, p, 299, "[60S1.0/60 120S2.0/60 180S3.0/60 240S4.0/60]")
	advance(t, p, 1, "[300S5.0/60]")
	p = atOnce(t, hurried(), append(times(6, 60), 60, 1)...)
	advance(t, p, 299, "[60S1.0/60 120S2.0/60 180S3.0/60 240S4.0/60]")
	advance(t, p, 1, "[300D5.0/60 300S6.0/60]")
	advance(t, p, 60, "[360S7.0/1]")
	counts(t, p, 8, 7, 0, 0, 1, 0, 361)
}

// Only the bytes of the bucket itself count, and not what waits in others, nor Over.
func TestBytesOfTheBucketAlone(t *testing.T) {
	c := hurried()
	c.Buckets, c.Target, c.Interval = 2, 1, 1
	p := open(t, c)
	p.Arrive(in(t, c, 0, 60))
	for i := 0; i < 10; i++ {
		p.Arrive(in(t, c, 0, 6))
		p.Arrive(in(t, c, 1, 6))
	}
	p.Advance(2000)
	counts(t, p, 21, 21, 0, 0, 0, 0, 180)
}

// ABOVE was set at 60, and is now at 300, or one later.
func TestAboveNowAndLater(t *testing.T) {
	for _, x := range []struct {
		interval int
		want     string
	}{{239, "[300D5.0/60 300S6.0/60]"}, {240, "[300D5.0/60 300S6.0/60]"}, {241, "[300S5.0/60]"}} {
		c := hurried()
		c.Interval = x.interval
		p := atOnce(t, c, times(12, 60)...)
		p.Advance(299)
		advance(t, p, 1, x.want)
	}
}

// steady lets so many times a frame go out, while many always wait, and tells when frames were dropped or marked.
func steady(p *port.Port, frame string, units, sent int) []int {
	var found []int
	for i := 0; i < sent; i++ {
		for k, _ := p.Held(); k < 50; k++ {
			_, l, _ := p.Arrive(frame)
			found = append(found, lateOnes(l)...)
		}
		l, _ := p.Advance(units)
		found = append(found, lateOnes(l)...)
	}
	return found
}

func lateOnes(l []api.Event) []int {
	var found []int
	for _, e := range l {
		if e.Kind == api.Delayed || e.Kind == api.Marked {
			found = append(found, e.At)
		}
	}
	return found
}

// The link takes a frame at each unit of time, so that drops lie just a step apart.
func TestStepsOfDrops(t *testing.T) {
	for _, interval := range []int{200, 199, 1000, 37} {
		c := hurried()
		c.Length, c.Target, c.Interval = 20, 1, interval
		got := steady(open(t, c), "x", 1, 8*interval)
		want := []int{1 + interval}
		for n := 1; len(want) < len(got); n++ {
			want = append(want, want[n-1]+modelStep(interval, n))
		}
		if len(got) < 10 || fmt.Sprint(got) != fmt.Sprint(want) {
			t.Errorf("P9: Interval %d: dropped at %v; want %v", interval, got, want)
		}
	}
	c := hurried()
	c.Length, c.Target = 20, 1
	got := steady(open(t, c), "x", 1, 800)
	if fmt.Sprint(got[:5]) != "[201 401 542 657 757]" {
		t.Errorf("P9: dropped at %v", got)
	}
}

// Marks lie just as far apart: of frames of 20 bytes, with Tau 1, all steps are rounded up to 20s.
func TestStepsOfMarks(t *testing.T) {
	c := hurried()
	c.Length, c.Target, c.Interval, c.ECN = 20, 1, 1000, true
	for _, frame := range []string{ecn(1, 20), ecn(2, 20)} {
		got := steady(open(t, c), frame, 20, 300)
		next := 20 + 1000
		var want []int
		for n := 1; n <= len(got); n++ {
			want = append(want, (next+19)/20*20)
			if n == 1 {
				next = want[0]
			}
			next += modelStep(1000, n)
		}
		if len(got) != 10 || fmt.Sprint(got) != fmt.Sprint(want) {
			t.Errorf("P9: marked at %v; want %v", got, want)
		}
	}
}

// A step of 0: in one taking, all are dropped that are late.
func TestManyDroppedInOneTaking(t *testing.T) {
	c := hurried()
	c.Target, c.Interval = 1, 1
	p := atOnce(t, c, times(12, 60)...)
	advance(t, p, 60, "[60S1.0/60]")
	advance(t, p, 60, "[120D2.0/60 120S3.0/60]")
	advance(t, p, 60, "[180D4.0/60 180D5.0/60 180D6.0/60 180D7.0/60 180D8.0/60 180D9.0/60 180S10.0/60]")
	advance(t, p, 60, "[240S11.0/60]")
	counts(t, p, 12, 5, 0, 0, 7, 0, 300)
}

// Several steps are over as the link takes a frame: several frames are dropped, and no more than are due.
func TestSomeDroppedInOneTaking(t *testing.T) {
	c := hurried()
	c.Target, c.Interval = 1, 40
	p := atOnce(t, c, times(20, 60)...)
	advance(t, p, 60, "[60S1.0/60]")
	// NEXT is 160, then 188, then 211, 231, 248, then 264, 279, 293, 306.
	advance(t, p, 60, "[120D2.0/60 120S3.0/60]")
	advance(t, p, 60, "[180D4.0/60 180S5.0/60]")
	advance(t, p, 60, "[240D6.0/60 240D7.0/60 240D8.0/60 240S9.0/60]")
	advance(t, p, 60, "[300D10.0/60 300D11.0/60 300D12.0/60 300D13.0/60 300S14.0/60]")
}

// What is dropped does not lower the deficit; what goes out does, marked or not.
func TestDeficitOfDropsAndMarks(t *testing.T) {
	for _, x := range []struct {
		ecn  bool
		want string
	}{
		{false, "[60S6.1/60 120S1.0/60 180D7.1/60 180S8.1/60 240D2.0/60 240S3.0/60 300S9.1/60 360S4.0/60 420S10.1/60 480S5.0/60]"},
		{true, "[60S6.1/60 120S1.0/60 180M7.1/60 240M2.0/60 300M8.1/60 360M3.0/60 420S9.1/60 480S4.0/60 540S10.1/60 600S5.0/60]"},
	} {
		c := hurried()
		c.Buckets, c.Quantum, c.Interval, c.ECN = 2, 60, 110, x.ecn
		p := open(t, c)
		for b := 0; b < 2; b++ {
			f := []byte(in(t, c, b, 60))
			f[1] = 1
			right(f, 20)
			for i := 0; i < 6-b; i++ {
				p.Arrive(string(f))
			}
		}
		advance(t, p, 1000, x.want)
	}
}

// What a mark makes of frames of all mark bits, IPv4 and IPv6, and of frames that cannot be read.
func TestWhatIsMarked(t *testing.T) {
	six := func(bits byte) string {
		b := []byte(ipv6(17, strings.Repeat("\x01", 20), 0))
		b[1] = bits << 4
		return string(b)
	}
	wrongSum := []byte(ecn(1, 60))
	wrongSum[11] ^= 1
	for _, x := range []struct {
		frame, want string
		set         bool
	}{
		{ecn(0, 60), "", true}, {ecn(1, 60), ecn(3, 60), true}, {ecn(2, 60), ecn(3, 60), true}, {ecn(3, 60), "", true},
		{ecn(0xfd, 60), ecn(0xff, 60), true}, {ecn(0xfe, 60), ecn(0xff, 60), true}, {ecn(0xfc, 60), "", true}, {ecn(0x10, 60), "", true},
		{six(0), "", true}, {six(1), six(3), true}, {six(2), six(3), true}, {six(3), "", true}, {six(14), six(15), true}, {six(12), "", true},
		{six(0)[:1] + "\x01" + six(0)[2:], "", true}, {string(wrongSum), "", true}, {six(1)[:59], "", true}, {filled(0x45, 60), "", true},
		{strings.Repeat("\x61", 60), "", true}, {"\x45\x01", "", true}, {"\x60\x10", "", true}, {"\x01", "", true},
		{ecn(1, 60), "", false}, {ecn(2, 60), "", false}, {six(1), "", false}, {six(2), "", false},
	} {
		c := hurried()
		c.ECN = x.set
		p := open(t, c)
		for i := 0; i < 5; i++ {
			p.Arrive(ecn(0, 60))
		}
		p.Arrive(x.frame)
		for i := 0; i < 5; i++ {
			p.Arrive(ecn(1, 60))
		}
		p.Advance(299)
		l, _ := p.Advance(1)
		want := []api.Event{{At: 300, Kind: api.Delayed, ID: 5, Frame: x.frame}, {At: 300, Kind: api.Sent, ID: 6, Frame: ecn(1, 60)}}
		if x.want != "" {
			want = []api.Event{{At: 300, Kind: api.Marked, ID: 5, Frame: x.want}}
		}
		if full(l) != full(want) {
			t.Errorf("P9: %x, ECN %v: %s; want %s", x.frame, x.set, full(l), full(want))
		}
	}
}

// Where a marked header is right with 0 and with 65535, its checksum is 0.
func TestChecksumOfNothing(t *testing.T) {
	for bits := byte(1); bits <= 2; bits++ {
		f := []byte(ecn(3, 60))
		// The number of the frame takes over what the checksum was to make up for.
		f[4], f[5], f[10], f[11] = f[10], f[11], 0, 0
		want := string(f)
		f[1] = bits
		right(f, 20)
		if f[10] != 0 || f[11] != 3-bits {
			t.Fatalf("%x: not the frame that this test is about", f)
		}
		c := hurried()
		c.ECN = true
		p := open(t, c)
		for i := 0; i < 10; i++ {
			p.Arrive(string(f))
		}
		p.Advance(299)
		l, _ := p.Advance(1)
		if len(l) != 1 || l[0].Kind != api.Marked || l[0].Frame != want {
			t.Errorf("P9: %s; want %x", full(l), want)
		}
	}
}

// A marked frame is on the link as long as any other, and its bytes have gone out.
func TestMarkedFramesGoOut(t *testing.T) {
	c := hurried()
	c.ECN, c.Tau = true, 1
	p := open(t, c)
	for i := 0; i < 12; i++ {
		p.Arrive(ecn(2, 60))
	}
	p.Advance(300)
	now(t, p, 300, true)
	held(t, p, 6, 6*124)
	backlog(t, p, 0, 6, 360)
	counts(t, p, 12, 5, 1, 0, 0, 0, 360)
	advance(t, p, 59, "[]")
	advance(t, p, 1, "[360S6.0/60]")
}

// A bucket that is emptied while it is DROPPING, by a flood of frames that are shorter, and is then asked for a frame, begins from nothing.
func TestEmptiedWhileDropping(t *testing.T) {
	c := hurried()
	c.Buckets, c.Packets, c.Target, c.Interval = 2, 10, 1, 100
	p := open(t, c)
	for i := 0; i < 9; i++ {
		p.Arrive(in(t, c, 0, 60))
	}
	advance(t, p, 180, "[60S1.0/60 120S2.0/60 180D3.0/60 180S4.0/60]") // ABOVE was 160; NEXT is 280
	for i := 0; i < 6; i++ {
		arrive(t, p, in(t, c, 1, 1), 9+i, "[]")
	}
	for i := 0; i < 4; i++ {
		arrive(t, p, in(t, c, 1, 1), 15+i, fmt.Sprintf("[180O%d.0/60]", 5+i))
	}
	backlog(t, p, 0, 0, 0)
	advance(t, p, 70, "[240S9.1/1 241S10.1/1 242S11.1/1 243S12.1/1 244S13.1/1 245S14.1/1 246S15.1/1 247S16.1/1 248S17.1/1 249S18.1/1]")
	arrive(t, p, in(t, c, 0, 60), 19, "[250S19.0/60]")
	for i := 0; i < 9; i++ {
		arrive(t, p, in(t, c, 0, 60), 20+i, "[]")
	}
	advance(t, p, 60, "[310S20.0/60]") // ABOVE is 410
	advance(t, p, 60, "[370S21.0/60]")
	advance(t, p, 60, "[430D22.0/60 430S23.0/60]")
}

// Each bucket remembers for itself.
func TestBucketsRememberForThemselves(t *testing.T) {
	c := hurried()
	c.Buckets, c.Quantum, c.Target, c.Interval = 2, 60, 1, 200
	p := open(t, c)
	for i := 0; i < 8; i++ {
		p.Arrive(in(t, c, 0, 60))
	}
	advance(t, p, 240, "[60S1.0/60 120S2.0/60 180S3.0/60 240S4.0/60]") // ABOVE of bucket 0 is 260
	for i := 0; i < 9; i++ {
		arrive(t, p, in(t, c, 1, 60), 8+i, "[]")
	}
	advance(t, p, 60, "[300S8.1/60]") // ABOVE of bucket 1 is 500
	advance(t, p, 60, "[360S9.1/60]")
	advance(t, p, 60, "[420D5.0/60 420S6.0/60]")
	advance(t, p, 60, "[480S10.1/60]")
	advance(t, p, 60, "[540S7.0/60]")
	advance(t, p, 60, "[600D11.1/60 600S12.1/60]")
}

// The end of time: ABOVE and NEXT may lie beyond it.
func TestDelaysAtTheEndOfTime(t *testing.T) {
	for _, x := range []struct {
		interval int
		late     bool
	}{{200, true}, {240, true}, {241, false}, {api.MaxSpan, false}} {
		c := hurried()
		c.Interval = x.interval
		p := open(t, c)
		p.Advance(api.MaxTime - 300)
		for i := 0; i < 12; i++ {
			p.Arrive(ip(60))
		}
		l, e := p.Advance(300)
		if got := lateOnes(l); e != api.OK || (len(got) == 1 && got[0] == api.MaxTime) != x.late || len(got) > 1 {
			t.Errorf("P9: Interval %d: %s, %v", x.interval, show(l), e)
		}
		if l, e := p.Advance(1); l != nil || e != api.ErrClock {
			t.Errorf("P5: %s, %v", show(l), e)
		}
	}
}
