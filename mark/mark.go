// Package mark: frames that are marked in place of being dropped (P9).
package mark

import "fairlink/flow"

const (
	least4   = 20 // the bytes of a header of IPv4, if it has no options
	checksum = 10 // its place in that header

	// The mark bits of byte 1.
	bits4 = 1 | 2
	bits6 = 16 | 32
	unit6 = 16
)

// Set is a frame with both its mark bits set; false, if it cannot be marked.
func Set(frame string) (string, bool) {
	switch flow.Version(frame) {
	case 4:
		return set4(frame)
	case 6:
		return set6(frame)
	}
	return "", false
}

// set4 marks a frame of IPv4, and makes its checksum right.
func set4(frame string) (string, bool) {
	if len(frame) < least4 || !markable(int(frame[1]&bits4)) {
		return "", false
	}
	header := int(frame[0]&15) * 4
	if header < least4 || header > len(frame) {
		return "", false
	}
	marked := []byte(frame)
	marked[1] |= bits4
	marked[checksum] = 0
	marked[checksum+1] = 0
	sum := flow.Sum(string(marked[:header]))
	// Where the other words sum to 65535 by themselves, this makes 0, which the document prefers to 65535.
	rest := 0xffff - sum
	marked[checksum] = byte(rest >> 8)
	marked[checksum+1] = byte(rest & 0xff)
	return string(marked), true
}

func set6(frame string) (string, bool) {
	if len(frame) < 2 || !markable(int(frame[1]&bits6)/unit6) {
		return "", false
	}
	marked := []byte(frame)
	marked[1] |= bits6
	return string(marked), true
}

// markable tells whether a frame with such mark bits can be marked: at 0 its sender does not know of marks, at 3 it is marked already.
func markable(bits int) bool {
	return bits == 1 || bits == 2
}
