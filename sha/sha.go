// Package sha is layer 1: SHA-256. See shared/doc/01-sha.md.
package sha

import (
	"math/bits"

	"blazon/api"
)

// blockSize is how many bytes go through the rounds at once.
const blockSize = 64

// roundWords is of the t-th prime number (from 0 on) the first 32 bits of its cube root's fractional part.
var roundWords = [64]uint32{
	0x428a2f98, 0x71374491, 0xb5c0fbcf, 0xe9b5dba5, 0x3956c25b, 0x59f111f1, 0x923f82a4, 0xab1c5ed5,
	0xd807aa98, 0x12835b01, 0x243185be, 0x550c7dc3, 0x72be5d74, 0x80deb1fe, 0x9bdc06a7, 0xc19bf174,
	0xe49b69c1, 0xefbe4786, 0x0fc19dc6, 0x240ca1cc, 0x2de92c6f, 0x4a7484aa, 0x5cb0a9dc, 0x76f988da,
	0x983e5152, 0xa831c66d, 0xb00327c8, 0xbf597fc7, 0xc6e00bf3, 0xd5a79147, 0x06ca6351, 0x14292967,
	0x27b70a85, 0x2e1b2138, 0x4d2c6dfc, 0x53380d13, 0x650a7354, 0x766a0abb, 0x81c2c92e, 0x92722c85,
	0xa2bfe8a1, 0xa81a664b, 0xc24b8b70, 0xc76c51a3, 0xd192e819, 0xd6990624, 0xf40e3585, 0x106aa070,
	0x19a4c116, 0x1e376c08, 0x2748774c, 0x34b0bcb5, 0x391c0cb3, 0x4ed8aa4a, 0x5b9cca4f, 0x682e6ff3,
	0x748f82ee, 0x78a5636f, 0x84c87814, 0x8cc70208, 0x90befffa, 0xa4506ceb, 0xbef9a3f7, 0xc67178f2,
}

// Hash is what was written up to now: whole blocks have gone into words, what is behind them waits in block.
// How much waits is told by length, so that the two can't disagree.
type Hash struct {
	words  [8]uint32
	block  [blockSize]byte
	length uint64
}

// New is a hash to which nothing was written.
func New() *Hash {
	return &Hash{words: firstWords()}
}

// Write takes bytes in.
func (s *Hash) Write(b []byte) {
	for len(b) > 0 {
		n := copy(s.block[s.length%blockSize:], b)
		b = b[n:]
		s.length += uint64(n)
		if s.length%blockSize == 0 {
			s.words = mix(s.words, s.block)
		}
	}
}

// Clone is another hash to which the same was written.
func (s *Hash) Clone() *Hash {
	c := *s
	return &c
}

// Pad is what stands behind so many bytes.
func Pad(n uint64) []byte {
	// Wrap-round does no harm: 64 divides 2^64.
	noughts := (55 - n) % blockSize
	p := make([]byte, 1+noughts+8)
	p[0] = 0x80
	bitCount := 8 * n
	for i := range 8 {
		p[len(p)-1-i] = byte(bitCount >> (8 * i))
	}
	return p
}

// Digest is the digest of what was written.
func (s *Hash) Digest() api.Digest {
	// The padding goes into a copy, so that more may be written to s.
	c := *s
	c.Write(Pad(s.length))
	return wordBytes(c.words)
}

// Sum is the digest of bytes.
func Sum(b []byte) api.Digest {
	s := New()
	s.Write(b)
	return s.Digest()
}

// firstWords is of the first eight prime numbers the first 32 bits of their square roots' fractional parts.
func firstWords() [8]uint32 {
	return [8]uint32{
		0x6a09e667, 0xbb67ae85, 0x3c6ef372, 0xa54ff53a, 0x510e527f, 0x9b05688c, 0x1f83d9ab, 0x5be0cd19,
	}
}

// mix is the eight words behind one block more.
func mix(words [8]uint32, block [blockSize]byte) [8]uint32 {
	w := spread(block)
	a, b, c, d := words[0], words[1], words[2], words[3]
	e, f, g, h := words[4], words[5], words[6], words[7]
	for t := range 64 {
		x := h + (turned(e, 6) ^ turned(e, 11) ^ turned(e, 25)) + ((e & f) ^ (^e & g)) + roundWords[t] + w[t]
		y := (turned(a, 2) ^ turned(a, 13) ^ turned(a, 22)) + ((a & b) ^ (a & c) ^ (b & c))
		h, g, f, e = g, f, e, d+x
		d, c, b, a = c, b, a, x+y
	}
	return [8]uint32{
		words[0] + a, words[1] + b, words[2] + c, words[3] + d,
		words[4] + e, words[5] + f, words[6] + g, words[7] + h,
	}
}

// spread is the words that a block gives to the rounds, one to each.
func spread(block [blockSize]byte) [64]uint32 {
	var w [64]uint32
	for t := range 16 {
		i := 4 * t
		w[t] = uint32(block[i])<<24 | uint32(block[i+1])<<16 | uint32(block[i+2])<<8 | uint32(block[i+3])
	}
	for i := range 48 {
		t := i + 16
		s0 := turned(w[t-15], 7) ^ turned(w[t-15], 18) ^ (w[t-15] >> 3)
		s1 := turned(w[t-2], 17) ^ turned(w[t-2], 19) ^ (w[t-2] >> 10)
		w[t] = w[t-16] + s0 + w[t-7] + s1
	}
	return w
}

// turned is a word turned by n places to the right.
func turned(x uint32, n int) uint32 {
	return bits.RotateLeft32(x, -n)
}

// wordBytes is eight words as bytes, the highest byte of each first.
func wordBytes(words [8]uint32) api.Digest {
	var d api.Digest
	for i := range 8 {
		for j := range 4 {
			d[4*i+j] = byte(words[i] >> (24 - 8*j))
		}
	}
	return d
}
