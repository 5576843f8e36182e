package mark_test

import (
	"fmt"
	"strings"
	"testing"

	"fairlink/flow"
	"fairlink/mark"
)

// frame4 makes an IPv4 frame of 60 bytes: byte 1, the words of its header, bytes 4 and 5 (its identification), and a right checksum, 0 where both 0 and 65535 would do.
func frame4(service byte, words, number int) []byte {
	b := []byte(strings.Repeat("\xee", 60))
	b[0], b[1], b[2], b[3] = byte(0x40+words), service, 0, 60
	b[4], b[5] = byte(number>>8), byte(number)
	b[6], b[7], b[8], b[9] = 0, 0, 9, 17
	copy(b[12:], "\x0a\x00\x00\x01\x0a\x00\x00\x02")
	check(b)
	return b
}

// check makes the checksum right.
func check(b []byte) {
	b[10], b[11] = 0, 0
	n := (65535 - words(b)%65535) % 65535
	b[10], b[11] = byte(n>>8), byte(n)
}

// words is the sum of a header's words, carries and all.
func words(b []byte) int {
	sum := 0
	for i := 0; i < int(b[0]%16)*4; i += 2 {
		sum += int(b[i])*256 + int(b[i+1])
	}
	return sum
}

func frame6(second byte, n int) []byte {
	b := []byte(strings.Repeat("\xee", n))
	b[0], b[1], b[4], b[5], b[6] = 0x6d, second, 0, byte(n-40), 17
	return b
}

func becomes(t *testing.T, what string, frame []byte, want string) {
	t.Helper()
	before := string(frame)
	got, can := mark.Set(before)
	if !can || got != want {
		t.Errorf("P9: %s: %x becomes %x, %v; want %x", what, frame, got, can, want)
	}
	if before != string(frame) {
		t.Errorf("P9: %s: the frame that was handed in was changed", what)
	}
	if flow.Of(got) != flow.Of(before) {
		t.Errorf("P9: %s: another flow when it is marked", what)
	}
}

func cannotBe(t *testing.T, what string, frame []byte) {
	t.Helper()
	if got, can := mark.Set(string(frame)); can || got != "" {
		t.Errorf("P9: %s: %x is marked: %x, %v", what, frame, got, can)
	}
}

// Every byte 1: its two low bits alone matter, and the others stay.
func TestIPv4(t *testing.T) {
	for service := 0; service < 256; service++ {
		for header := 5; header <= 15; header += 5 {
			what := fmt.Sprintf("IPv4, byte 1 %d, header of %d words", service, header)
			frame := frame4(byte(service), header, 0x1234)
			if service%4 == 0 || service%4 == 3 {
				cannotBe(t, what, frame)
			} else {
				becomes(t, what, frame, string(frame4(byte(service|3), header, 0x1234)))
			}
		}
	}
}

// Every byte 1: its bits of values 16 and 32 alone matter, and the others stay.
func TestIPv6(t *testing.T) {
	for second := 0; second < 256; second++ {
		for _, n := range []int{40, 60, 200} {
			what := fmt.Sprintf("IPv6, byte 1 %d, %d bytes", second, n)
			frame := frame6(byte(second), n)
			if bits := second / 16 % 4; bits == 0 || bits == 3 {
				cannotBe(t, what, frame)
			} else {
				becomes(t, what, frame, string(frame6(byte(second|48), n)))
			}
		}
	}
}

// Every sum of the other words: the checksum is right, and it is 0, not 65535, where both would do.
func TestEveryChecksum(t *testing.T) {
	noughts := 0
	for _, service := range []byte{1, 2} {
		for number := 0; number < 1<<16; number++ {
			got, can := mark.Set(string(frame4(service, 5, number)))
			want := string(frame4(3, 5, number))
			if !can || got != want {
				t.Fatalf("P9: number %d: %x, %v; want %x", number, got, can, want)
			}
			if sum := words([]byte(got)); sum%65535 != 0 || got[10:12] == "\xff\xff" {
				t.Fatalf("P9: number %d: %x: its words sum to %d", number, got, sum)
			}
			if got[10:12] == "\x00\x00" {
				noughts++
			}
		}
	}
	if noughts < 2 {
		t.Errorf("the checksum became 0 only %d times", noughts)
	}
}

// A checksum of 65535 is as right as one of 0; it is made anew like any other.
func TestChecksumThatWas65535(t *testing.T) {
	met := 0
	for number := 0; number < 1<<16; number++ {
		frame := frame4(2, 5, number)
		if frame[10] == 0 && frame[11] == 0 {
			met++
			want := string(frame4(3, 5, number))
			becomes(t, "a checksum of 0", frame, want)
			frame[10], frame[11] = 0xff, 0xff
			becomes(t, "a checksum of 65535", frame, want)
		}
	}
	if met == 0 {
		t.Error("no checksum was 0")
	}
}

// Options belong to the header's checksum, bytes behind the header do not, nor do bytes behind the total length.
func TestChecksumIsTheHeaders(t *testing.T) {
	for header := 5; header <= 15; header++ {
		frame := frame4(1, header, 77)
		for i := header * 4; i < 60; i++ {
			frame[i] = byte(i * 37)
		}
		if header < 15 {
			frame[3] = byte(header * 4)
			check(frame)
		}
		want := append([]byte{}, frame...)
		want[1] = 3
		check(want)
		becomes(t, fmt.Sprint("header of words: ", header), frame, string(want))
	}
}

// What is marked cannot be marked again.
func TestMarkedOnceOnly(t *testing.T) {
	for _, frame := range [][]byte{frame4(1, 5, 9), frame4(2, 7, 9), frame6(16, 60), frame6(32, 60)} {
		got, can := mark.Set(string(frame))
		if !can {
			t.Errorf("%x is not marked", frame)
		}
		cannotBe(t, "marked already", []byte(got))
	}
}

// Frames that cannot be read cannot be marked, whatever their bits are.
func TestWhatCannotBeRead(t *testing.T) {
	for _, bits := range []byte{0x11, 0x12, 0x21, 0x22} {
		for at, value := range map[int]byte{0: 0x55, 3: 61, 10: 0x99} {
			frame := frame4(bits, 5, 1)
			frame[at] = value
			cannotBe(t, fmt.Sprint("IPv4 with another byte ", at), frame)
		}
		for at, value := range map[int]byte{0: 0x50, 5: 21, 6: 0} {
			frame := frame6(bits, 60)
			frame[at] = value
			cannotBe(t, fmt.Sprint("IPv6 with another byte ", at), frame)
		}
		four, six := frame4(bits, 5, 1), frame6(bits, 60)
		for n := 0; n < 60; n++ {
			cannotBe(t, "IPv4, cut", four[:n])
			cannotBe(t, "IPv6, cut", six[:n])
		}
		small := frame4(bits, 4, 1)
		cannotBe(t, "a header of 16 bytes", small)
		for _, n := range []int{1, 2, 16, 20, 40, 200} {
			cannotBe(t, "the same byte again and again", []byte(strings.Repeat(string([]byte{bits}), n)))
		}
	}
}
