package flow_test

import (
	"strings"
	"testing"

	"fairlink/flow"
)

const (
	ends4  = "\x0a\x00\x00\x01\x0a\x00\x00\x02"
	ports  = "\x03\x07\x00\x50"
	source = "\x20\x01\x0d\xb8\x00\x00\x00\x00\x00\x00\x00\x00\x00\x00\x00\x01"
	goal   = "\x20\x01\x0d\xb8\x00\x00\x00\x00\x00\x00\x00\x00\xff\x00\x00\x02"
)

// short says what an IPv4 frame of 60 bytes is to be; its checksum is right, unless spoil says by how much it is not.
type short struct {
	words    int // of the header, four bytes each
	total    int
	protocol byte
	fragment int // bytes 6 and 7
	spoil    int
}

func plain() short {
	return short{words: 5, total: 60, protocol: 17}
}

func bytes4(s short) []byte {
	b := []byte(strings.Repeat("\xee", 60))
	b[0], b[1] = byte(0x40+s.words), 0
	b[2], b[3] = byte(s.total>>8), byte(s.total)
	b[4], b[5] = 0x12, 0x34
	b[6], b[7] = byte(s.fragment>>8), byte(s.fragment)
	b[8], b[9], b[10], b[11] = 9, s.protocol, 0, 0
	copy(b[12:], ends4)
	if s.words >= 5 && s.words <= 14 {
		copy(b[s.words*4:], ports)
	}
	sum := s.spoil
	for i := 0; i < s.words*4 && i < 60; i += 2 {
		sum += int(b[i])*256 + int(b[i+1])
	}
	sum = (65535 - sum%65535) % 65535
	b[10], b[11] = byte(sum>>8), byte(sum)
	return b
}

func frame4(s short) string {
	return string(bytes4(s))
}

// frame6 makes an IPv6 frame: its payload length is the rest's, and extra bytes of the frame stand behind.
func frame6(next byte, rest string, extra int) string {
	head := []byte{0x60, 0, 0, 0, byte(len(rest) >> 8), byte(len(rest)), next, 64}
	return string(head) + source + goal + rest + strings.Repeat("\xee", extra)
}

// further is a further header of so many bytes: the next header, the length, and something.
func further(next byte, eights byte, size int) string {
	return string([]byte{next, eights}) + strings.Repeat("\xdd", size-2)
}

func of(t *testing.T, what, frame, want string) {
	t.Helper()
	if got := flow.Of(frame); got != want {
		t.Errorf("P7: %s (%x): %x; want %x", what, frame, got, want)
	}
}

// unread is the flow of a frame that cannot be read.
func unread(frame string) string {
	return "\x00" + (frame + strings.Repeat("\x00", 16))[:16]
}

func cannotBeRead(t *testing.T, what, frame string) {
	t.Helper()
	of(t, what, frame, unread(frame))
}
