package flow_test

import (
	"fmt"
	"strings"
	"testing"

	"fairlink/flow"
)

const (
	udp4 = "\x04" + ends4 + "\x11"
	tcp4 = "\x04" + ends4 + "\x06"
	udp6 = "\x06" + source + goal + "\x11"
	tcp6 = "\x06" + source + goal + "\x06"
)

func TestIPv4Protocols(t *testing.T) {
	for protocol := 0; protocol < 256; protocol++ {
		s := plain()
		s.protocol = byte(protocol)
		want := "\x04" + ends4 + string([]byte{s.protocol})
		if protocol == 6 || protocol == 17 {
			want += ports
		}
		of(t, fmt.Sprint("protocol ", protocol), frame4(s), want)
	}
}

func TestIPv4HeaderLengths(t *testing.T) {
	for words := 0; words < 16; words++ {
		s := plain()
		s.words = words
		what := fmt.Sprint("a header of ", words*4)
		f := frame4(s)
		switch {
		case words < 5:
			cannotBeRead(t, what, f)
		case words*4+4 <= 60:
			of(t, what, f, udp4+ports)
		default:
			of(t, what, f, udp4)
		}
	}
}

// A header that is too short cannot be read, though the sum of what it would be is right.
func TestIPv4HeaderTooShortWithRightSums(t *testing.T) {
	for words := 0; words < 5; words++ {
		b := bytes4(plain())
		b[0] = byte(0x40 + words)
		b[10], b[11] = 0, 0
		sum := 0
		for i := 0; i < 20; i += 2 {
			sum += int(b[i])*256 + int(b[i+1])
		}
		sum = 65535 - sum%65535
		b[10], b[11] = byte(sum>>8), byte(sum)
		cannotBeRead(t, fmt.Sprint("a header of ", words*4), string(b))
	}
}

func TestIPv4TotalLengths(t *testing.T) {
	for _, words := range []int{5, 6, 13} {
		header := words * 4
		for _, total := range []int{0, 19, header - 1, header, header + 1, header + 3, header + 4, header + 5, 59, 60, 61, 256, 256 + 60, 65535} {
			s := plain()
			s.words, s.total = words, total
			what := fmt.Sprintf("a header of %d, total length %d", header, total)
			f := frame4(s)
			switch {
			case total < header || total > 60:
				cannotBeRead(t, what, f)
			case total < header+4:
				of(t, what, f, udp4)
			default:
				of(t, what, f, udp4+ports)
			}
		}
	}
}

// The high byte of the total length comes first: 4 and 0 would else be 4.
func TestIPv4TotalLengthOf256(t *testing.T) {
	s := plain()
	s.total = 256
	whole := frame4(s) + strings.Repeat("x", 196)
	of(t, "256 bytes", whole, udp4+ports)
	cannotBeRead(t, "255 of 256 bytes", whole[:255])
}

func TestIPv4FrameLengths(t *testing.T) {
	s := plain()
	s.total = 20
	f := frame4(s)
	of(t, "20 bytes", f[:20], udp4)
	of(t, "21 bytes", f[:21], udp4)
	for n := 0; n < 20; n++ {
		cannotBeRead(t, fmt.Sprint(n, " bytes"), f[:n])
	}
	s.words, s.total = 15, 60
	f = frame4(s)
	of(t, "a header of 60", f, udp4)
	for n := 20; n < 60; n++ {
		cannotBeRead(t, fmt.Sprint(n, " bytes of a header of 60"), f[:n])
	}
}

func TestIPv4FirstBits(t *testing.T) {
	for high := 0; high < 16; high++ {
		b := bytes4(plain())
		sum := int(b[10])*256 + int(b[11]) + 0x4500 - (high*16+5)*256 + 2*65535
		sum %= 65535
		b[0], b[10], b[11] = byte(high*16+5), byte(sum>>8), byte(sum)
		if high == 4 {
			of(t, "IPv4", string(b), udp4+ports)
		} else {
			cannotBeRead(t, fmt.Sprint("first four bits ", high), string(b))
		}
	}
}

func TestIPv4WrongChecksums(t *testing.T) {
	for _, spoil := range []int{1, 2, 255, 256, 257, 32768, 65279, 65534} {
		s := plain()
		s.spoil = spoil
		cannotBeRead(t, fmt.Sprint("a checksum wrong by ", spoil), frame4(s))
	}
	f := frame4(plain())
	for i := 0; i < 20; i++ {
		for bit := 0; bit < 8; bit++ {
			b := []byte(f)
			b[i] ^= 1 << bit
			cannotBeRead(t, fmt.Sprintf("bit %d of byte %d turned over", bit, i), string(b))
		}
	}
	for i := 20; i < 60; i++ {
		b := []byte(f)
		b[i] ^= 0xff
		want := udp4 + string(b[20:24])
		of(t, fmt.Sprintf("byte %d, behind the header, turned over", i), string(b), want)
	}
}

// All of a longer header is summed, not its first twenty bytes alone.
func TestIPv4ChecksumOfOptions(t *testing.T) {
	s := plain()
	s.words = 7
	f := frame4(s)
	of(t, "options", f, udp4+ports)
	for i := 20; i < 28; i++ {
		b := []byte(f)
		b[i] ^= 0x10
		cannotBeRead(t, fmt.Sprintf("byte %d of the options turned over", i), string(b))
	}
}

// Of the two checksums that would do, 0 and 65535, both are right.
func TestIPv4ChecksumOfTwoForms(t *testing.T) {
	for _, form := range []byte{0x00, 0xff} {
		b := bytes4(plain())
		rest := int(b[4])*256 + int(b[5]) + int(b[10])*256 + int(b[11])
		rest %= 65535
		b[4], b[5], b[10], b[11] = byte(rest>>8), byte(rest), form, form
		of(t, fmt.Sprintf("checksum %x%x", form, form), string(b), udp4+ports)
	}
}

// A sum with many carries: they are added in again, and so is the carry of that.
func TestIPv4ManyCarries(t *testing.T) {
	s := plain()
	s.words = 15
	b := bytes4(s)
	for i := 20; i < 60; i++ {
		b[i] = 0xff
	}
	b[10], b[11] = 0, 0
	sum := 0
	for i := 0; i < 60; i += 2 {
		sum += int(b[i])*256 + int(b[i+1])
	}
	sum = (65535 - sum%65535) % 65535
	b[10], b[11] = byte(sum>>8), byte(sum)
	of(t, "options of bytes 255", string(b), udp4)
	b[11] ^= 1
	cannotBeRead(t, "options of bytes 255, a wrong checksum", string(b))
}

func TestIPv4Fragments(t *testing.T) {
	for bit := 0; bit < 16; bit++ {
		s := plain()
		s.fragment = 1 << bit
		want := udp4
		if bit > 13 {
			want += ports
		}
		of(t, fmt.Sprintf("bytes 6 and 7: %#x", s.fragment), frame4(s), want)
	}
	for _, x := range []int{0xc000, 0xffff, 0x3fff, 0x2001} {
		s := plain()
		s.fragment, s.protocol = x, 6
		want := tcp4
		if x == 0xc000 {
			want += ports
		}
		of(t, fmt.Sprintf("bytes 6 and 7: %#x", x), frame4(s), want)
	}
}

func TestIPv6Protocols(t *testing.T) {
	for next := 0; next < 256; next++ {
		want := "\x06" + source + goal + string([]byte{byte(next)})
		switch next {
		case 0, 43, 44, 60:
			continue
		case 6, 17:
			want += ports
		}
		of(t, fmt.Sprint("next header ", next), frame6(byte(next), ports+"more", 0), want)
	}
}

func TestIPv6Lengths(t *testing.T) {
	f := frame6(17, "", 0)
	of(t, "40 bytes", f, udp6)
	for n := 0; n < 40; n++ {
		cannotBeRead(t, fmt.Sprint(n, " bytes"), f[:n])
	}
	for n := 0; n < 4; n++ {
		of(t, fmt.Sprint("a payload of ", n, ", bytes behind"), frame6(17, ports[:n], 20), udp6)
	}
	of(t, "a payload of 4", frame6(17, ports, 0), udp6+ports)
	of(t, "a payload of 4, bytes behind", frame6(6, ports, 9), tcp6+ports)
	f = frame6(17, ports+"and more", 0)
	of(t, "a payload of 12", f, udp6+ports)
	for n := 40; n < len(f); n++ {
		cannotBeRead(t, fmt.Sprint("a payload of 12, frame of ", n), f[:n])
	}
}

// The high byte of the payload length comes first.
func TestIPv6PayloadOf256(t *testing.T) {
	f := frame6(17, ports+strings.Repeat("x", 252), 0)
	of(t, "a payload of 256", f, udp6+ports)
	cannotBeRead(t, "a payload of 256, one byte less", f[:len(f)-1])
	b := []byte(frame6(17, ports, 0))
	b[4], b[5] = 0xff, 0xff
	cannotBeRead(t, "a payload of 65535", string(b))
}

// What is no part of the flow: traffic class, flow label, hop limit.
func TestIPv6OtherFields(t *testing.T) {
	b := []byte(frame6(17, ports, 0))
	b[0], b[1], b[2], b[3], b[7] = 0x6f, 0xff, 0xff, 0xff, 0
	of(t, "other fields", string(b), udp6+ports)
	for high := 0; high < 16; high++ {
		b[0] = byte(high * 16)
		if high != 6 {
			cannotBeRead(t, fmt.Sprint("first four bits ", high), string(b))
		}
	}
}

func TestIPv6EachFurtherHeader(t *testing.T) {
	for _, kind := range []byte{0, 43, 60} {
		for _, eights := range []byte{0, 1, 2, 17} {
			what := fmt.Sprintf("further header %d of %d bytes", kind, 8*(int(eights)+1))
			h := further(17, eights, 8*(int(eights)+1))
			of(t, what, frame6(kind, h+ports, 0), udp6+ports)
			of(t, what+", nothing left", frame6(kind, h, 10), udp6)
			of(t, what+", three bytes left", frame6(kind, h+"abc", 10), udp6)
			cannotBeRead(t, what+", beyond", frame6(kind, h[:len(h)-1], 10))
			cannotBeRead(t, what+", seven bytes", frame6(kind, h[:7], 30))
			cannotBeRead(t, what+", nothing", frame6(kind, "", 30))
		}
	}
	long := further(6, 255, 2048)
	of(t, "further header of 2048 bytes", frame6(0, long+ports, 0), tcp6+ports)
	cannotBeRead(t, "further header of 2048 bytes, beyond", frame6(0, long[:2047], 100))
}

// A header of kind 44 has 8 bytes, whatever its second byte is, and makes the frame a fragment, even if it is the whole of it.
func TestIPv6Fragments(t *testing.T) {
	for _, second := range []byte{0, 1, 200, 255} {
		h := string([]byte{17, second, 0, 0, 0, 0, 0, 0})
		of(t, "a fragment", frame6(44, h+ports, 0), udp6)
		of(t, "a fragment, nothing left", frame6(44, h, 0), udp6)
		cannotBeRead(t, "seven bytes of a fragment", frame6(44, h[:7], 30))
		of(t, "a fragment, then another header", frame6(44, "\x3c"+h[1:]+further(6, 1, 16)+ports, 0), tcp6)
		of(t, "another header, then a fragment", frame6(0, further(44, 0, 8)+h+ports, 0), udp6)
		of(t, "two fragments", frame6(44, "\x2c"+h[1:]+h+ports, 0), udp6)
		of(t, "a fragment without ports", frame6(44, "\x3a"+h[1:]+ports, 0), "\x06"+source+goal+"\x3a")
	}
}

func TestIPv6CountOfFurtherHeaders(t *testing.T) {
	kinds := []byte{0, 60, 43, 60, 0, 43}
	for count := 0; count <= 6; count++ {
		rest := ""
		first := byte(17)
		for i := count - 1; i >= 0; i-- {
			rest = further(first, 0, 8) + rest
			first = kinds[i]
		}
		what := fmt.Sprint(count, " further headers")
		f := frame6(first, rest+ports, 3)
		if count <= 4 {
			of(t, what, f, udp6+ports)
		} else {
			cannotBeRead(t, what, f)
		}
	}
}

// The fifth is one too many, also if nothing is left for it, and if it is a fragment's.
func TestIPv6FifthFurtherHeader(t *testing.T) {
	three := strings.Repeat(further(0, 0, 8), 3)
	for _, kind := range []byte{0, 43, 44, 60} {
		cannotBeRead(t, "a fifth, nothing left", frame6(0, three+further(kind, 0, 8), 0))
		cannotBeRead(t, "a fifth", frame6(0, three+further(kind, 0, 8)+further(17, 0, 8)+ports, 0))
	}
	of(t, "a fourth", frame6(0, three+further(58, 0, 8)+ports, 0), "\x06"+source+goal+"\x3a")
	of(t, "a fourth that is a fragment", frame6(0, further(60, 0, 8)+further(43, 0, 8)+further(44, 0, 8)+further(6, 0, 8)+ports, 0), tcp6)
}

// The rest is told by the payload length: what stands behind it is no part of a further header.
func TestIPv6FurtherHeadersEndWithThePayload(t *testing.T) {
	h := further(17, 1, 16)
	f := frame6(0, h[:8], 0) + h[8:] + ports
	cannotBeRead(t, "a header of 16 bytes in a payload of 8", f)
	f = frame6(0, further(60, 0, 8)+h[:15], 0) + h[15:] + ports
	cannotBeRead(t, "a second header that goes beyond by one byte", f)
}

func TestUnread(t *testing.T) {
	for n := 0; n <= 40; n++ {
		f := strings.Repeat("\xff", n)
		want := "\x00" + f + strings.Repeat("\x00", 16)
		of(t, fmt.Sprint(n, " bytes 255"), f, want[:17])
	}
	of(t, "a text", "abcdefghijklmnopqrstuvwxyz", "\x00abcdefghijklmnop")
	of(t, "fewer than sixteen", "abc", "\x00abc\x00\x00\x00\x00\x00\x00\x00\x00\x00\x00\x00\x00\x00")
}

// Every cut and every byte turned over of all kinds of frames ends without a panic, and gives one of the three forms.
func TestBrokenFrames(t *testing.T) {
	for _, f := range []string{
		frame4(plain()), frame4(short{15, 60, 6, 0, 0}), frame6(17, ports, 2),
		frame6(0, further(60, 1, 16)+further(44, 0, 8)+further(43, 2, 24)+further(17, 0, 8)+ports, 2),
	} {
		for i := range f {
			for x := 0; x < 256; x++ {
				b := []byte(f)
				b[i] = byte(x)
				hasForm(t, string(b))
				hasForm(t, string(b[:i+1]))
			}
		}
	}
}

func hasForm(t *testing.T, frame string) {
	t.Helper()
	got := flow.Of(frame)
	lengths := []int{}
	switch got[0] {
	case 4:
		lengths = []int{10, 14}
	case 6:
		lengths = []int{34, 38}
	case 0:
		lengths = []int{17, 17}
	}
	if len(lengths) == 0 || len(got) != lengths[0] && len(got) != lengths[1] {
		t.Errorf("P7: %x: %x is no flow", frame, got)
	}
}
