package sip_test

import (
	"strings"
	"testing"

	"fairlink/sip"
)

// rising is a text of the bytes 0, 1, 2, and so on, from 255 on to 0 again.
func rising(n int) string {
	b := make([]byte, n)
	for i := range b {
		b[i] = byte(i)
	}
	return string(b)
}

func hashes(t *testing.T, key, text string, want uint64) {
	t.Helper()
	if got := sip.Hash(key, text); got != want {
		t.Errorf("Hash(%q, %q) = %#x; want %#x", key, text, got, want)
	}
}

func TestDocument(t *testing.T) {
	hashes(t, rising(16), rising(15), 0xa129ca6149be45e5)
}

// known is what OpenSSL's SIPHASH (eight bytes) answers of rising texts under the key of the bytes 0 to 15; the place is the text's length.
var known = []uint64{
	0x726fdb47dd0e0e31,
	0x74f839c593dc67fd,
	0x0d6c8009d9a94f5a,
	0x85676696d7fb7e2d,
	0xcf2794e0277187b7,
	0x18765564cd99a68d,
	0xcbc9466e58fee3ce,
	0xab0200f58b01d137,
	0x93f5f5799a932462,
	0x9e0082df0ba9e4b0,
	0x7a5dbbc594ddb9f3,
	0xf4b32f46226bada7,
	0x751e8fbc860ee5fb,
	0x14ea5627c0843d90,
	0xf723ca908e7af2ee,
	0xa129ca6149be45e5,
	0x3f2acc7f57c29bdb,
	0x699ae9f52cbe4794,
	0x4bc1b3f0968dd39c,
	0xbb6dc91da77961bd,
	0xbed65cf21aa2ee98,
	0xd0f2cbb02e3b67c7,
	0x93536795e3a33e88,
	0xa80c038ccd5ccec8,
	0xb8ad50c6f649af94,
	0xbce192de8a85b8ea,
	0x17d835b85bbb15f3,
	0x2f2e6163076bcfad,
	0xde4daaaca71dc9a5,
	0xa6a2506687956571,
	0xad87a3535c49ef28,
	0x32d892fad841c342,
	0x7127512f72f27cce,
	0xa7f32346f95978e3,
	0x12e0b01abb051238,
	0x15e034d40fa197ae,
	0x314dffbe0815a3b4,
	0x027990f029623981,
	0xcadcd4e59ef40c4d,
	0x9abfd8766a33735c,
	0x0e3ea96b5304a7d0,
	0xad0c42d6fc585992,
	0x187306c89bc215a9,
	0xd4a60abcf3792b95,
	0xf935451de4f21df2,
	0xa9538f0419755787,
	0xdb9acddff56ca510,
	0xd06c98cd5c0975eb,
	0xe612a3cb9ecba951,
}

func TestEachLength(t *testing.T) {
	for n, want := range known {
		hashes(t, rising(16), rising(n), want)
	}
}

// The length goes into the hash modulo 256 alone.
func TestLongTexts(t *testing.T) {
	hashes(t, rising(16), rising(127), 0x9e7db1ba81dc7e3a)
	hashes(t, rising(16), rising(128), 0xdeb79e256c8736ae)
	hashes(t, rising(16), rising(254), 0x3675e5b469beb11f)
	hashes(t, rising(16), rising(255), 0xa9c169fec74db21a)
	hashes(t, rising(16), rising(256), 0x999d0526d2a7bfd7)
	hashes(t, rising(16), rising(257), 0x8a817b8d55b29748)
	hashes(t, rising(16), rising(263), 0x86d801b865760792)
	hashes(t, rising(16), rising(264), 0xe76e0db3fa0ee85c)
	hashes(t, rising(16), rising(511), 0x969303d05e5af242)
	hashes(t, rising(16), rising(512), 0x883b57c3e55ada0e)
	hashes(t, rising(16), rising(1000), 0xdb9b3ed69e31c9a6)
}

// Bytes from 128 on, in the key and in the text, and texts that differ only in how many bytes 0 they end with.
func TestOtherKeys(t *testing.T) {
	hashes(t, strings.Repeat("\xff", 16), "", 0x35dd279ee86ce565)
	hashes(t, strings.Repeat("\xff", 16), "\x00", 0x63e8f5ae8073d111)
	hashes(t, strings.Repeat("\xff", 16), "\x00\x00", 0x3af24a6ce0cf9afc)
	hashes(t, strings.Repeat("\xff", 16), strings.Repeat("\x00", 7), 0x3f5cf6f23fa6bfff)
	hashes(t, strings.Repeat("\xff", 16), strings.Repeat("\x00", 8), 0x93e9a1f113e70a00)
	hashes(t, strings.Repeat("\xff", 16), strings.Repeat("\xff", 7), 0x7008818ecf918e11)
	hashes(t, strings.Repeat("\xff", 16), strings.Repeat("\xff", 38), 0xd73a8f21bc12b0d4)
	hashes(t, strings.Repeat("\xff", 16), rising(256)[128:], 0x4f4ed0a6ee5d48d9)
	hashes(t, strings.Repeat("\x00", 16), "", 0x1e924b9d737700d7)
	hashes(t, strings.Repeat("\x00", 16), "\x00", 0x8b5a0baa49fbc58d)
	hashes(t, strings.Repeat("\x00", 16), "\x00\x00", 0x3a6d9523170345d0)
	hashes(t, strings.Repeat("\x00", 16), strings.Repeat("\x00", 7), 0x85f896b6040a13ec)
	hashes(t, strings.Repeat("\x00", 16), strings.Repeat("\x00", 8), 0xe849e8bb6ffe2567)
	hashes(t, strings.Repeat("\x00", 16), strings.Repeat("\xff", 7), 0x2e029c0a4c8f48e3)
	hashes(t, strings.Repeat("\x00", 16), strings.Repeat("\xff", 38), 0xaa9ecc17d36b030e)
	hashes(t, strings.Repeat("\x00", 16), rising(256)[128:], 0xbf48ddca9f879aeb)
	hashes(t, "0123456789abcdef", "", 0xae32c38ad4dd9eb8)
	hashes(t, "0123456789abcdef", "\x00", 0xfcd0b3d49cba7731)
	hashes(t, "0123456789abcdef", "\x00\x00", 0x76109861317fae70)
	hashes(t, "0123456789abcdef", strings.Repeat("\x00", 7), 0x0311081742bab199)
	hashes(t, "0123456789abcdef", strings.Repeat("\x00", 8), 0x8d9c42c1ab88bf87)
	hashes(t, "0123456789abcdef", strings.Repeat("\xff", 7), 0x3cb5a4cabca9887e)
	hashes(t, "0123456789abcdef", strings.Repeat("\xff", 38), 0x5fe2ce5cf4272f02)
	hashes(t, "0123456789abcdef", rising(256)[128:], 0x1fe42172cbbf248e)
}

// Each byte of the key and of the text matters.
func TestEachByteMatters(t *testing.T) {
	text := rising(38)
	whole := sip.Hash(rising(16), text)
	for i := 0; i < 16; i++ {
		key := []byte(rising(16))
		key[i] ^= 0x80
		if sip.Hash(string(key), text) == whole {
			t.Errorf("byte %d of the key does not matter", i)
		}
	}
	for i := range text {
		b := []byte(text)
		b[i] ^= 0x01
		if sip.Hash(rising(16), string(b)) == whole {
			t.Errorf("byte %d of the text does not matter", i)
		}
	}
}

// A key that is none still ends, without a panic.
func TestWrongKeys(t *testing.T) {
	for n := 0; n < 40; n++ {
		if n < 16 {
			hashes(t, rising(n), "text", sip.Hash(rising(n)+strings.Repeat("\x00", 16-n), "text"))
		} else {
			hashes(t, rising(n), "text", sip.Hash(rising(16), "text"))
		}
	}
}
