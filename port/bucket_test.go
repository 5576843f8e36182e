package port_test

import (
	"fmt"
	"strings"
	"testing"

	"fairlink/api"
)

// goesTo sees, by the event of a new port, to which bucket a frame belongs.
func goesTo(t *testing.T, c api.Config, frame string, bucket int) {
	t.Helper()
	p := open(t, c)
	_, l, e := p.Arrive(frame)
	if e != api.OK || len(l) != 1 || l[0] != (api.Event{Kind: api.Sent, Bucket: bucket, Frame: frame}) {
		t.Errorf("P7: %x, Buckets %d: %s, %v; want bucket %d", frame, c.Buckets, full(l), e, bucket)
	}
}

// sixteen is a configuration in which flows can be told apart well.
func sixteen() api.Config {
	c := easy()
	c.Buckets, c.Length = 16, 200
	return c
}

// together sees that two frames are of one flow, or that they are not, whatever the key and the number of buckets are.
func together(t *testing.T, what, one, other string, want bool) {
	t.Helper()
	c := sixteen()
	same := true
	for i := 0; i < 8; i++ {
		c.Key = strings.Repeat(string(rune('a'+i)), 16)
		c.Buckets = 16 - i
		p := open(t, c)
		_, first, _ := p.Arrive(one)
		p.Advance(200)
		_, second, _ := p.Arrive(other)
		if len(first) != 1 || len(second) != 1 {
			t.Fatalf("P7: %s: %s, %s", what, full(first), full(second))
		}
		if first[0].Bucket != second[0].Bucket {
			same = false
		}
	}
	if same != want {
		t.Errorf("P7: %s: of one flow: %v; want %v", what, same, want)
	}
}

// edit is an IPv4 frame of 60 bytes in which one byte is another; its checksum is right.
func edit(at int, value byte) string {
	b := ipv4(60, 17, 775)
	b[at] = value
	right(b, int(b[0]%16)*4)
	return string(b)
}

// Buckets there are 1 to 16: all frames find one, and each bucket is found.
func TestEveryCountOfBuckets(t *testing.T) {
	c := easy()
	for c.Buckets = 1; c.Buckets <= api.MaxBuckets; c.Buckets++ {
		found := make([]bool, c.Buckets)
		for i := 0; i < 300; i++ {
			f := variant(i, 20+i%40)
			b := modelBucket(c, f)
			goesTo(t, c, f, b)
			found[b] = true
		}
		for b := range found {
			if !found[b] {
				t.Errorf("no frame of these tests goes to bucket %d of %d", b, c.Buckets)
			}
		}
	}
}

func TestKeyTellsBuckets(t *testing.T) {
	c := sixteen()
	for i := 0; i < 16; i++ {
		k := []byte(key)
		k[i] = 0xff
		c.Key = string(k)
		for n := 0; n < 10; n++ {
			f := variant(n, 40)
			goesTo(t, c, f, modelBucket(c, f))
		}
	}
}

func TestFlowsOfIPv4(t *testing.T) {
	plain := string(ipv4(60, 17, 775))
	together(t, "the same", plain, plain, true)
	together(t, "another length", plain, string(ipv4(59, 17, 775)), true)
	together(t, "another port", plain, string(ipv4(60, 17, 776)), false)
	together(t, "another goal's port", plain, edit(23, 81), false)
	together(t, "another protocol", plain, string(ipv4(60, 6, 775)), false)
	together(t, "another source", plain, edit(15, 3), false)
	together(t, "another goal", plain, edit(19, 3), false)
	together(t, "another service", plain, edit(1, 0xff), true)
	together(t, "another identification", plain, edit(5, 7), true)
	together(t, "another time to live", plain, edit(8, 1), true)
	together(t, "other bytes behind the ports", plain, edit(24, 1), true)
	together(t, "not to be cut", plain, edit(6, 0x40), true)
	together(t, "a reserved bit", plain, edit(6, 0x80), true)
	together(t, "more to come", plain, edit(6, 0x20), false)
	together(t, "a later part", plain, edit(7, 1), false)
	together(t, "a later part and the first", edit(7, 1), edit(6, 0x20), true)
	together(t, "a part and a frame without ports", edit(7, 1), string(ipv4(20, 17, 775)), true)
	together(t, "a total length without ports", edit(7, 1), edit(3, 23), true)
	together(t, "a total length with ports", plain, edit(3, 24), true)
	together(t, "a protocol without ports", string(ipv4(60, 1, 775)), string(ipv4(60, 1, 776)), true)
}

// Frames that are not IPv4 by one thing alone are told by their first sixteen bytes, to which the goal does not belong.
func TestFramesThatAreNotIPv4(t *testing.T) {
	wrongSum := []byte(edit(19, 2))
	wrongSum[10] ^= 1
	otherGoal := append([]byte{}, wrongSum...)
	otherGoal[19] = 9
	together(t, "a wrong checksum", string(wrongSum), string(otherGoal), true)
	together(t, "a right checksum and a wrong one", edit(19, 2), string(wrongSum), false)
	for _, x := range []struct {
		what  string
		at    int
		value byte
	}{{"a header of 16 bytes", 0, 0x44}, {"a total length below the header", 3, 19}, {"a total length beyond the frame", 3, 61}, {"version 5", 0, 0x55}} {
		b := []byte(edit(x.at, x.value))
		other := append([]byte{}, b...)
		other[20], other[30] = 0x77, 0x77
		together(t, x.what, string(b), string(other), true)
		other[16] = 0x77
		together(t, x.what+", another goal", string(b), string(other), true)
		other[12] ^= 1
		together(t, x.what+", another byte 12", string(b), string(other), false)
	}
}

// ipv6 makes an IPv6 frame of next header and rest, with extra bytes behind.
func ipv6(next byte, rest string, extra int) string {
	b := make([]byte, 40)
	b[0], b[5], b[6], b[23], b[39] = 0x60, byte(len(rest)), next, 1, 2
	return string(b) + rest + strings.Repeat("\x00", extra)
}

const someSeven = "\x00\x00\x00\x00\x00\x00\x00"

func TestFlowsOfIPv6(t *testing.T) {
	plain := ipv6(17, "\x04\x07\x00\x50", 0)
	together(t, "the same, bytes behind", plain, ipv6(17, "\x04\x07\x00\x50", 9), true)
	together(t, "another port", plain, ipv6(17, "\x04\x08\x00\x50", 0), false)
	together(t, "another protocol", plain, ipv6(6, "\x04\x07\x00\x50", 0), false)
	together(t, "three bytes of ports", plain, ipv6(17, "\x04\x07\x00", 1), false)
	together(t, "three bytes of ports and none", ipv6(17, "", 4), ipv6(17, "\x04\x07\x00", 1), true)
	for _, kind := range []byte{0, 43, 60} {
		what := fmt.Sprint("further header ", kind)
		together(t, what, plain, ipv6(kind, "\x11"+someSeven+"\x04\x07\x00\x50", 0), true)
		together(t, what+", cut", plain, ipv6(kind, "\x11"+someSeven[:6], 5), false)
		together(t, what+", beyond", plain, ipv6(kind, "\x11\x01"+someSeven[:6]+"\x04\x07\x00\x50", 20), false)
		together(t, what+" of 16 bytes", plain, ipv6(kind, "\x11\x01"+someSeven+someSeven+"\x04\x07\x00\x50", 0), true)
	}
	fragment := ipv6(44, "\x11"+someSeven+"\x04\x07\x00\x50", 0)
	together(t, "a fragment", plain, fragment, false)
	together(t, "a fragment and no ports", ipv6(17, "", 4), fragment, true)
	four := "\x3c" + someSeven + "\x2b" + someSeven + "\x00" + someSeven
	together(t, "four further headers", plain, ipv6(0, four+"\x11"+someSeven+"\x04\x07\x00\x50", 0), true)
	together(t, "five further headers", plain, ipv6(0, four+"\x00"+someSeven+"\x11"+someSeven+"\x04\x07\x00\x50", 0), false)
	together(t, "a payload beyond the frame", plain, plain[:len(plain)-1], false)
}

func TestFlowsThatCannotBeRead(t *testing.T) {
	text := "abcdefghijklmnop"
	together(t, "bytes from the seventeenth on", text+"q", text+"xyz", true)
	together(t, "the sixteenth byte", text, text[:15]+"q", false)
	together(t, "bytes 0 behind", "abc", "abc\x00\x00", true)
	together(t, "thirteen bytes 0 behind, then another", "abc", "abc"+someSeven+"\x00\x00\x00\x00\x00\x00x", true)
	together(t, "twelve bytes 0 behind, then another", "abc", "abc"+someSeven+"\x00\x00\x00\x00\x00x", false)
	together(t, "one byte", "a", "b", false)
}

// It is bytes that count: bucket 2 has more frames, and more memory, than bucket 1.
func TestDroppedFromTheBucketWithTheMostBytes(t *testing.T) {
	c := easy()
	c.Buckets, c.Packets = 4, 5
	p := open(t, c)
	arrive(t, p, in(t, c, 3, 60), 0, "[0S0.3/60]")
	arrive(t, p, in(t, c, 2, 25), 1, "[]")
	arrive(t, p, in(t, c, 2, 25), 2, "[]")
	arrive(t, p, in(t, c, 2, 25), 3, "[]")
	arrive(t, p, in(t, c, 1, 39), 4, "[]")
	arrive(t, p, in(t, c, 1, 38), 5, "[]")
	backlog(t, p, 1, 2, 77)
	backlog(t, p, 2, 3, 75)
	held(t, p, 5, 77+75+5*64)
	arrive(t, p, in(t, c, 3, 20), 6, "[0O4.1/39]")
	arrive(t, p, in(t, c, 3, 20), 7, "[0O1.2/25]")
	arrive(t, p, in(t, c, 3, 20), 8, "[0O6.3/20]")
	backlog(t, p, 0, 0, 0)
	backlog(t, p, 1, 1, 38)
	backlog(t, p, 2, 2, 50)
	backlog(t, p, 3, 2, 40)
}

// Of several buckets with the most bytes the one of the least number loses its first frame, in whichever order they were filled.
func TestDroppedFromTheLeastOfSeveral(t *testing.T) {
	for _, x := range []struct {
		order [3]int
		last  int
		want  string
	}{
		{[3]int{0, 1, 2}, 3, "[0O1.0/40]"}, {[3]int{2, 1, 0}, 3, "[0O3.0/40]"}, {[3]int{1, 0, 2}, 3, "[0O2.0/40]"},
		{[3]int{3, 2, 1}, 0, "[0O3.1/40]"}, {[3]int{1, 3, 2}, 0, "[0O1.1/40]"}, {[3]int{3, 0, 2}, 1, "[0O2.0/40]"},
	} {
		c := easy()
		c.Buckets, c.Packets = 4, 3
		p := open(t, c)
		p.Arrive(in(t, c, 0, 60))
		for i, b := range x.order {
			arrive(t, p, in(t, c, b, 40), i+1, "[]")
		}
		arrive(t, p, in(t, c, x.last, 20), 4, x.want)
	}
}

// A bucket may come to have as many bytes as others by a frame that has just come, or by one that was dropped.
func TestDroppedFromTheLeastThoughOthersAreAsFull(t *testing.T) {
	c := easy()
	c.Buckets, c.Packets = 4, 4
	p := open(t, c)
	p.Arrive(in(t, c, 0, 60))
	arrive(t, p, in(t, c, 3, 50), 1, "[]")
	arrive(t, p, in(t, c, 2, 50), 2, "[]")
	arrive(t, p, in(t, c, 1, 30), 3, "[]")
	arrive(t, p, in(t, c, 1, 20), 4, "[]")
	arrive(t, p, in(t, c, 0, 50), 5, "[0O5.0/50]")
	arrive(t, p, in(t, c, 0, 20), 6, "[0O3.1/30]")
	arrive(t, p, in(t, c, 0, 20), 7, "[0O2.2/50]")
	arrive(t, p, in(t, c, 0, 10), 8, "[0O6.0/20]")
	arrive(t, p, in(t, c, 0, 10), 9, "[0O1.3/50]")
}

// The frame that has just come is dropped, if its bucket has the most bytes and no other frame.
func TestTheOneThatHasJustComeIsDropped(t *testing.T) {
	c := easy()
	c.Buckets, c.Packets = 2, 2
	p := open(t, c)
	p.Arrive(in(t, c, 0, 60))
	arrive(t, p, in(t, c, 1, 20), 1, "[]")
	arrive(t, p, in(t, c, 1, 20), 2, "[]")
	arrive(t, p, in(t, c, 0, 41), 3, "[0O3.0/41]")
	counts(t, p, 4, 1, 0, 1, 0, 0, 60)
	arrive(t, p, in(t, c, 0, 39), 4, "[0O1.1/20]")
	arrive(t, p, in(t, c, 1, 20), 5, "[0O2.1/20]")
}

// Memory is what is above: several are dropped, from one bucket and then from another, as each has the most bytes.
func TestManyAreDroppedFromSeveralBuckets(t *testing.T) {
	c := easy()
	c.Buckets, c.Length, c.Memory = 3, 200, 700
	p := open(t, c)
	p.Arrive(in(t, c, 0, 200))
	arrive(t, p, in(t, c, 0, 60), 1, "[]")
	arrive(t, p, in(t, c, 0, 70), 2, "[]")
	arrive(t, p, in(t, c, 1, 50), 3, "[]")
	arrive(t, p, in(t, c, 1, 60), 4, "[]")
	arrive(t, p, in(t, c, 2, 100), 5, "[]")
	held(t, p, 5, 660)
	arrive(t, p, in(t, c, 2, 20), 6, "[0O1.0/60]")
	held(t, p, 5, 620)
	arrive(t, p, in(t, c, 2, 200), 7, "[0O5.2/100 0O6.2/20]")
	held(t, p, 4, 636)
	arrive(t, p, in(t, c, 0, 130), 8, "[0O2.0/70]")
	held(t, p, 4, 696)
	arrive(t, p, in(t, c, 1, 190), 9, "[0O3.1/50 0O4.1/60 0O7.2/200]")
	held(t, p, 2, 448)
}

func TestMemoryOfAllBucketsJustKept(t *testing.T) {
	c := easy()
	c.Buckets, c.Memory = 16, 3*64+30+30+31
	p := open(t, c)
	p.Arrive(in(t, c, 0, 60))
	arrive(t, p, in(t, c, 7, 30), 1, "[]")
	arrive(t, p, in(t, c, 15, 30), 2, "[]")
	arrive(t, p, in(t, c, 9, 31), 3, "[]")
	held(t, p, 3, c.Memory)
	p = open(t, c)
	p.Arrive(in(t, c, 0, 60))
	arrive(t, p, in(t, c, 7, 30), 1, "[]")
	arrive(t, p, in(t, c, 15, 30), 2, "[]")
	arrive(t, p, in(t, c, 9, 32), 3, "[0O3.9/32]")
}
