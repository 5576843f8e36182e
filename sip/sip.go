// Package sip: the hash SipHash-2-4.
package sip

// wordLen is the number of bytes in a word.
const wordLen = 8

// state is the four words that the rounds stir.
type state struct {
	a, b, c, d uint64
}

// Hash is the hash of a text under a key of sixteen bytes.
func Hash(key, text string) uint64 {
	k := word(key, 0)
	l := word(key, wordLen)
	s := state{
		a: k ^ 0x736f6d6570736575,
		b: l ^ 0x646f72616e646f6d,
		c: k ^ 0x6c7967656e657261,
		d: l ^ 0x7465646279746573,
	}
	at := 0
	for len(text)-at >= wordLen {
		m := word(text, at)
		s.take(m)
		at += wordLen
	}
	last := word(text, at)
	s.take(last | uint64(len(text))<<56)
	s.c ^= 255
	s.stir(4)
	return s.a ^ s.b ^ s.c ^ s.d
}

// word is the eight bytes from a place on, the low one first; bytes beyond the text's end are 0.
func word(text string, at int) uint64 {
	w := uint64(0)
	for i := wordLen - 1; i >= 0; i-- {
		w <<= 8
		if at+i < len(text) {
			w |= uint64(text[at+i])
		}
	}
	return w
}

func (s *state) take(m uint64) {
	s.d ^= m
	s.stir(2)
	s.a ^= m
}

func (s *state) stir(rounds int) {
	for i := 0; i < rounds; i++ {
		s.round()
	}
}

func (s *state) round() {
	s.a += s.b
	s.b = turned(s.b, 13) ^ s.a
	s.a = turned(s.a, 32)
	s.c += s.d
	s.d = turned(s.d, 16) ^ s.c
	s.a += s.d
	s.d = turned(s.d, 21) ^ s.a
	s.c += s.b
	s.b = turned(s.b, 17) ^ s.c
	s.c = turned(s.c, 32)
}

// turned is a word turned to the left by n bits; n is at most 64.
func turned(w uint64, n uint) uint64 {
	return w<<n | w>>(64-n)
}
