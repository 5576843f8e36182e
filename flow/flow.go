// Package flow: how a frame is read, and to which flow it belongs (P7).
package flow

const (
	leastIPv4 = 20 // the bytes of its header, if it has no options
	leastIPv6 = 40 // the bytes of its first header

	tcp = 6
	udp = 17

	hopByHop    = 0
	routing     = 43
	fragment    = 44
	destination = 60

	mostFurther  = 4 // further headers that are read
	leastFurther = 8 // the bytes of a further header
	unreadBytes  = 16
	portsBytes   = 4
)

// Of is the flow of a frame. Its first byte tells how the frame was read: 4, 6, or 0 if it could not be.
func Of(frame string) string {
	text, read := ofIPv4(frame)
	if read {
		return text
	}
	text, read = ofIPv6(frame)
	if read {
		return text
	}
	return ofUnread(frame)
}

// Version tells as what a frame is read: 4 for IPv4, 6 for IPv6, 0 if it cannot be.
func Version(frame string) int {
	text := Of(frame)
	if len(text) == 0 {
		return 0
	}
	return int(text[0])
}

// ofIPv4 is the flow of a frame that is IPv4; false, if it is not.
func ofIPv4(frame string) (string, bool) {
	if len(frame) < leastIPv4 || frame[0]>>4 != 4 {
		return "", false
	}
	header := int(frame[0]&15) * 4
	end := pair(frame, 2)
	if header < leastIPv4 || end < header || end > len(frame) {
		return "", false
	}
	if Sum(frame[:header]) != 0xffff {
		return "", false
	}
	text := "\x04" + frame[12:20] + frame[9:10]
	if pair(frame, 6)&0x3fff != 0 {
		return text, true
	}
	return text + ports(frame[header:end], frame[9]), true
}

// ofIPv6 is the flow of a frame that is IPv6; false, if it is not, or its further headers cannot be read.
func ofIPv6(frame string) (string, bool) {
	if len(frame) < leastIPv6 || frame[0]>>4 != 6 {
		return "", false
	}
	end := leastIPv6 + pair(frame, 4)
	if end > len(frame) {
		return "", false
	}
	rest := frame[leastIPv6:end]
	next := frame[6]
	whole := true
	for count := 0; isFurther(next); count++ {
		size := furtherBytes(rest, next)
		if count == mostFurther || size == 0 {
			return "", false
		}
		if next == fragment {
			whole = false
		}
		next = rest[0]
		rest = rest[size:]
	}
	text := "\x06" + frame[8:40] + string([]byte{next})
	if !whole {
		return text, true
	}
	return text + ports(rest, next), true
}

// ofUnread is the flow of a frame that cannot be read.
func ofUnread(frame string) string {
	text := "\x00"
	for i := 0; i < unreadBytes; i++ {
		if i < len(frame) {
			text += frame[i : i+1]
		} else {
			text += "\x00"
		}
	}
	return text
}

func isFurther(next byte) bool {
	return next == hopByHop || next == routing || next == fragment || next == destination
}

// furtherBytes is the length of the further header of a kind with which rest begins; 0, if it does not fit there.
func furtherBytes(rest string, kind byte) int {
	if len(rest) < leastFurther {
		return 0
	}
	size := leastFurther
	if kind != fragment {
		size = leastFurther * (int(rest[1]) + 1)
	}
	if size > len(rest) {
		return 0
	}
	return size
}

// ports is the two ports with which the rest of a frame begins, as one string; none, if the protocol has none or they are not there.
func ports(rest string, protocol byte) string {
	if protocol != tcp && protocol != udp {
		return ""
	}
	if len(rest) < portsBytes {
		return ""
	}
	return rest[:portsBytes]
}

// pair is the number of two bytes from a place on, the high one first; the caller has seen that they are there.
func pair(text string, at int) int {
	return int(text[at])<<8 | int(text[at+1])
}

// Sum adds up a header's 16-bit words, with the carries added in again.
func Sum(header string) int {
	n := 0
	for at := 0; at+1 < len(header); at += 2 {
		n += pair(header, at)
	}
	for n > 0xffff {
		n = n>>16 + n&0xffff
	}
	return n
}
