package flow_test

import (
	"strings"
	"testing"

	"fairlink/flow"
)

func TestVersion(t *testing.T) {
	spoilt := plain()
	spoilt.spoil = 1
	for _, x := range []struct {
		what, frame string
		want        int
	}{
		{"IPv4", frame4(plain()), 4},
		{"IPv4 with a wrong checksum", frame4(spoilt), 0},
		{"IPv4, cut", frame4(plain())[:59], 0},
		{"IPv6", frame6(17, ports, 0), 6},
		{"IPv6 with a further header", frame6(0, further(17, 0, 8)+ports, 3), 6},
		{"IPv6 with a further header that is cut", frame6(0, further(17, 1, 8), 3), 0},
		{"nothing", "", 0},
		{"a byte 4", "\x04", 0},
		{"bytes 6", strings.Repeat("\x06", 60), 0},
	} {
		if got := flow.Version(x.frame); got != x.want {
			t.Errorf("P7: %s (%x): %d; want %d", x.what, x.frame, got, x.want)
		}
	}
}

func TestSum(t *testing.T) {
	for _, x := range []struct {
		header string
		want   int
	}{
		{"", 0}, {"\x12\x34", 0x1234}, {"\x00\x00\x00\x00", 0}, {"\xff\xff", 0xffff}, {"\xff\xff\xff\xff", 0xffff},
		{"\xff\xff\x00\x01", 1}, {"\x80\x00\x80\x00", 1}, {"\xff\xfe\x00\x01", 0xffff}, {strings.Repeat("\xff\xff", 30) + "\x00\x02", 2},
	} {
		if got := flow.Sum(x.header); got != x.want {
			t.Errorf("P7: the sum of %x: %x; want %x", x.header, got, x.want)
		}
	}
}
