// Package sha is SHA-256: see doc/01-sha.md.
package sha

import "math/bits"

const (
	blockSize  = 64
	lengthSize = 8 // of the text's length in bits, at the padding's end
)

var start = [8]uint32{
	0x6a09e667, 0xbb67ae85, 0x3c6ef372, 0xa54ff53a,
	0x510e527f, 0x9b05688c, 0x1f83d9ab, 0x5be0cd19,
}

var roots = [64]uint32{
	0x428a2f98, 0x71374491, 0xb5c0fbcf, 0xe9b5dba5, 0x3956c25b, 0x59f111f1, 0x923f82a4, 0xab1c5ed5,
	0xd807aa98, 0x12835b01, 0x243185be, 0x550c7dc3, 0x72be5d74, 0x80deb1fe, 0x9bdc06a7, 0xc19bf174,
	0xe49b69c1, 0xefbe4786, 0x0fc19dc6, 0x240ca1cc, 0x2de92c6f, 0x4a7484aa, 0x5cb0a9dc, 0x76f988da,
	0x983e5152, 0xa831c66d, 0xb00327c8, 0xbf597fc7, 0xc6e00bf3, 0xd5a79147, 0x06ca6351, 0x14292967,
	0x27b70a85, 0x2e1b2138, 0x4d2c6dfc, 0x53380d13, 0x650a7354, 0x766a0abb, 0x81c2c92e, 0x92722c85,
	0xa2bfe8a1, 0xa81a664b, 0xc24b8b70, 0xc76c51a3, 0xd192e819, 0xd6990624, 0xf40e3585, 0x106aa070,
	0x19a4c116, 0x1e376c08, 0x2748774c, 0x34b0bcb5, 0x391c0cb3, 0x4ed8aa4a, 0x5b9cca4f, 0x682e6ff3,
	0x748f82ee, 0x78a5636f, 0x84c87814, 0x8cc70208, 0x90befffa, 0xa4506ceb, 0xbef9a3f7, 0xc67178f2,
}

// Sum is the hash of b.
func Sum(b []byte) [32]byte {
	var h Hash
	h.Put(b)
	return h.Sum()
}

// Hash is the hash of all that was Put. Its state is filled with its first
// byte, so that a zero one, that New did not make, is ready too.
type Hash struct {
	state [8]uint32
	part  [blockSize]byte // the bytes behind the last whole block
	size  uint64          // of all that was Put, in bytes
}

// New is the Hash of nothing.
func New() *Hash { return &Hash{} }

// Put adds b to what is hashed.
func (h *Hash) Put(b []byte) {
	if h == nil || len(b) == 0 {
		return
	}
	if h.size == 0 {
		h.state = start
	}
	held := int(h.size % blockSize)
	h.size += uint64(len(b))
	if held > 0 {
		n := copy(h.part[held:], b)
		b = b[n:]
		if held+n < blockSize {
			return
		}
		mix(&h.state, h.part[:])
	}
	for len(b) >= blockSize {
		mix(&h.state, b[:blockSize])
		b = b[blockSize:]
	}
	copy(h.part[:], b)
}

// Sum is the hash of all that was Put so far.
func (h *Hash) Sum() [32]byte {
	var last Hash
	if h != nil {
		// A copy is padded, so that more may be Put into h.
		last = *h
	}
	pad, n := padding(last.size)
	last.Put(pad[:n])
	var sum [32]byte
	for i, w := range last.state {
		putWord(sum[4*i:], w)
	}
	return sum
}

// padding is what stands behind a text of so many bytes: the first n of pad.
func padding(size uint64) (pad [blockSize + lengthSize]byte, n int) {
	pad[0] = 0x80
	n = blockSize - int(size%blockSize)
	if n < 1+lengthSize {
		n += blockSize
	}
	putWord(pad[n-8:], uint32(size>>29))
	putWord(pad[n-4:], uint32(size<<3))
	return pad, n
}

// mix puts one whole block into the state.
func mix(state *[8]uint32, block []byte) {
	words := schedule(block)
	a, b, c, d := state[0], state[1], state[2], state[3]
	e, f, g, h := state[4], state[5], state[6], state[7]
	for t, w := range words {
		t1 := h + big1(e) + (e&f ^ ^e&g) + roots[t] + w
		t2 := big0(a) + (a&b ^ a&c ^ b&c)
		h, g, f, e = g, f, e, d+t1
		d, c, b, a = c, b, a, t1+t2
	}
	state[0] += a
	state[1] += b
	state[2] += c
	state[3] += d
	state[4] += e
	state[5] += f
	state[6] += g
	state[7] += h
}

// schedule is a block's words W(0) to W(63).
func schedule(block []byte) (w [64]uint32) {
	for t := range 16 {
		w[t] = word(block[4*t:])
	}
	for t := 16; t < len(w); t++ {
		w[t] = small1(w[t-2]) + w[t-7] + small0(w[t-15]) + w[t-16]
	}
	return w
}

// The sigmas of FIPS 180-4: small0 and small1 are the chapter's s0 and s1,
// big0 and big1 its S0 and S1. A turn to the right is one to the left by less
// than nought.

func small0(x uint32) uint32 {
	return bits.RotateLeft32(x, -7) ^ bits.RotateLeft32(x, -18) ^ x>>3
}

func small1(x uint32) uint32 {
	return bits.RotateLeft32(x, -17) ^ bits.RotateLeft32(x, -19) ^ x>>10
}

func big0(x uint32) uint32 {
	return bits.RotateLeft32(x, -2) ^ bits.RotateLeft32(x, -13) ^ bits.RotateLeft32(x, -22)
}

func big1(x uint32) uint32 {
	return bits.RotateLeft32(x, -6) ^ bits.RotateLeft32(x, -11) ^ bits.RotateLeft32(x, -25)
}

func word(b []byte) uint32 {
	return uint32(b[0])<<24 | uint32(b[1])<<16 | uint32(b[2])<<8 | uint32(b[3])
}

func putWord(b []byte, w uint32) {
	b[0], b[1], b[2], b[3] = byte(w>>24), byte(w>>16), byte(w>>8), byte(w)
}
