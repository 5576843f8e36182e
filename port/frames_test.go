package port_test

import (
	"testing"

	"fairlink/api"
)

// right makes the checksum of an IPv4 header right.
func right(b []byte, header int) {
	b[10], b[11] = 0, 0
	sum := 0
	for i := 0; i < header; i += 2 {
		sum += int(b[i])<<8 + int(b[i+1])
	}
	for sum > 0xffff {
		sum = sum&0xffff + sum>>16
	}
	b[10], b[11] = byte(^sum>>8), byte(^sum)
}

// ipv4 makes an IPv4 frame of n bytes (20 at least) from 10.0.0.1 and a port to 10.0.0.2, port 80.
func ipv4(n int, protocol byte, from int) []byte {
	b := make([]byte, n)
	b[0], b[2], b[3], b[8], b[9] = 0x45, byte(n>>8), byte(n), 9, protocol
	b[12], b[15], b[16], b[19] = 10, 1, 10, 2
	if n >= 24 {
		b[20], b[21], b[23] = byte(from>>8), byte(from), 80
	}
	right(b, 20)
	return b
}

// ip makes an IPv4 frame of n bytes with protocol 17.
func ip(n int) string {
	return string(ipv4(n, 17, 0))
}

// variant makes the i-th of many frames of n bytes that are of different flows.
func variant(i, n int) string {
	if n < 20 {
		b := make([]byte, n+1)
		b[0], b[1] = byte(i), byte(i>>8)
		return string(b[:n])
	}
	b := ipv4(n, 17, 1)
	b[13], b[14] = byte(i>>8), byte(i)
	right(b, 20)
	return string(b)
}

// in makes a frame of n bytes that belongs to a bucket.
func in(t *testing.T, c api.Config, b, n int) string {
	t.Helper()
	for i := 0; i < 1<<16; i++ {
		f := variant(i, n)
		if modelBucket(c, f) == b {
			return f
		}
	}
	t.Fatalf("no frame of %d bytes in bucket %d of %d", n, b, c.Buckets)
	return ""
}
