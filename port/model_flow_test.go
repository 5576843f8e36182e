package port_test

import (
	"encoding/binary"
	"math/big"
	"math/bits"

	"fairlink/api"
)

// modelBucket is the bucket that P7 gives a frame, worked out without the program's packages.
func modelBucket(c api.Config, frame string) int {
	h := new(big.Int).SetUint64(modelHash(c.Key, modelFlow([]byte(frame))) >> 32)
	h.Mul(h, big.NewInt(int64(c.Buckets)))
	h.Div(h, new(big.Int).Lsh(big.NewInt(1), 32))
	return int(h.Int64())
}

func modelHash(key string, text []byte) uint64 {
	k := binary.LittleEndian.Uint64([]byte(key)[:8])
	l := binary.LittleEndian.Uint64([]byte(key)[8:])
	v := [4]uint64{k ^ 0x736f6d6570736575, l ^ 0x646f72616e646f6d, k ^ 0x6c7967656e657261, l ^ 0x7465646279746573}
	padded := append([]byte{}, text...)
	for len(padded)%8 != 7 {
		padded = append(padded, 0)
	}
	padded = append(padded, byte(len(text)))
	for ; len(padded) > 0; padded = padded[8:] {
		m := binary.LittleEndian.Uint64(padded)
		v[3] ^= m
		modelRounds(&v, 2)
		v[0] ^= m
	}
	v[2] ^= 0xff
	modelRounds(&v, 4)
	return v[0] ^ v[1] ^ v[2] ^ v[3]
}

func modelRounds(v *[4]uint64, n int) {
	half := func(a, b, by int) {
		v[a] += v[b]
		v[b] = bits.RotateLeft64(v[b], by) ^ v[a]
	}
	for ; n > 0; n-- {
		half(0, 1, 13)
		v[0] = bits.RotateLeft64(v[0], 32)
		half(2, 3, 16)
		half(0, 3, 21)
		half(2, 1, 17)
		v[2] = bits.RotateLeft64(v[2], 32)
	}
}

func modelFlow(b []byte) []byte {
	if f := modelIPv4(b); f != nil {
		return f
	}
	if f := modelIPv6(b); f != nil {
		return f
	}
	f := make([]byte, 17)
	copy(f[1:], b)
	return f
}

func modelIPv4(b []byte) []byte {
	if len(b) < 20 || b[0]/16 != 4 || b[0]%16 < 5 {
		return nil
	}
	header, total := int(b[0]%16)*4, int(binary.BigEndian.Uint16(b[2:]))
	if total < header || total > len(b) {
		return nil
	}
	sum := 0
	for i := 0; i < header; i += 2 {
		sum += int(binary.BigEndian.Uint16(b[i:]))
	}
	// With carries added in again, a sum that is not 0 becomes 65535 just if 65535 divides it.
	if sum%65535 != 0 {
		return nil
	}
	f := append([]byte{4}, b[12:20]...)
	f = append(f, b[9])
	whole := b[6]%64 == 0 && b[7] == 0
	if (b[9] == 6 || b[9] == 17) && whole && total-header >= 4 {
		f = append(f, b[header:header+4]...)
	}
	return f
}

func modelIPv6(b []byte) []byte {
	if len(b) < 40 || b[0]/16 != 6 {
		return nil
	}
	payload := int(binary.BigEndian.Uint16(b[4:]))
	if 40+payload > len(b) {
		return nil
	}
	next, rest, whole := modelFurther(b[6], b[40:40+payload], 4)
	if rest == nil {
		return nil
	}
	f := append([]byte{6}, b[8:40]...)
	f = append(f, next)
	if (next == 6 || next == 17) && whole && len(rest) >= 4 {
		f = append(f, rest[:4]...)
	}
	return f
}

// modelFurther goes through so many further headers at the most; what is left is nil, if they cannot be read.
func modelFurther(next byte, rest []byte, most int) (byte, []byte, bool) {
	if next != 0 && next != 43 && next != 44 && next != 60 {
		return next, rest[:len(rest):len(rest)], true
	}
	if most == 0 || len(rest) < 8 {
		return 0, nil, false
	}
	size := 8 + 8*int(rest[1])
	if next == 44 {
		size = 8
	}
	if size > len(rest) {
		return 0, nil, false
	}
	last, left, whole := modelFurther(rest[0], rest[size:], most-1)
	return last, left, whole && next != 44
}
