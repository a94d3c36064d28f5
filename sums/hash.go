package sums

import "math/bits"

const (
	pieceBytes  = 64 // bytes of text that the state takes in at once
	lengthBytes = 8  // bytes of the length at the end of the padded text
	digestBytes = 32
)

var firstWords = [8]uint32{
	0x6a09e667, 0xbb67ae85, 0x3c6ef372, 0xa54ff53a, 0x510e527f, 0x9b05688c, 0x1f83d9ab, 0x5be0cd19,
}

var roundWords = [64]uint32{
	0x428a2f98, 0x71374491, 0xb5c0fbcf, 0xe9b5dba5, 0x3956c25b, 0x59f111f1, 0x923f82a4, 0xab1c5ed5,
	0xd807aa98, 0x12835b01, 0x243185be, 0x550c7dc3, 0x72be5d74, 0x80deb1fe, 0x9bdc06a7, 0xc19bf174,
	0xe49b69c1, 0xefbe4786, 0x0fc19dc6, 0x240ca1cc, 0x2de92c6f, 0x4a7484aa, 0x5cb0a9dc, 0x76f988da,
	0x983e5152, 0xa831c66d, 0xb00327c8, 0xbf597fc7, 0xc6e00bf3, 0xd5a79147, 0x06ca6351, 0x14292967,
	0x27b70a85, 0x2e1b2138, 0x4d2c6dfc, 0x53380d13, 0x650a7354, 0x766a0abb, 0x81c2c92e, 0x92722c85,
	0xa2bfe8a1, 0xa81a664b, 0xc24b8b70, 0xc76c51a3, 0xd192e819, 0xd6990624, 0xf40e3585, 0x106aa070,
	0x19a4c116, 0x1e376c08, 0x2748774c, 0x34b0bcb5, 0x391c0cb3, 0x4ed8aa4a, 0x5b9cca4f, 0x682e6ff3,
	0x748f82ee, 0x78a5636f, 0x84c87814, 0x8cc70208, 0x90befffa, 0xa4506ceb, 0xbef9a3f7, 0xc67178f2,
}

// Sha is the SHA-256 of p, 32 bytes.
func Sha(p string) string {
	h := NewHash()
	h.Add(p)
	return h.Sum()
}

// Hash takes a text in pieces. Its parts are all values, so that a copy of it goes its own way.
type Hash struct {
	state [8]uint32
	piece [pieceBytes]byte // its first count % pieceBytes bytes are not in the state yet
	count uint64           // bytes that were added
}

// NewHash begins with the empty text.
func NewHash() *Hash { return &Hash{state: firstWords} }

// Add puts p behind what was added.
func (h *Hash) Add(p string) {
	for len(p) > 0 {
		n := copy(h.piece[h.count%pieceBytes:], p)
		p = p[n:]
		h.count += uint64(n)
		if h.count%pieceBytes == 0 {
			h.state = takePiece(h.state, &h.piece)
		}
	}
}

// Sum is the SHA-256 of all that was added so far. One may go on adding.
func (h *Hash) Sum() string {
	last := *h // the padding goes into a copy: h is to go on as it was
	last.Add(padding(h.count))
	var digest [digestBytes]byte
	for i, word := range last.state {
		digest[4*i] = byte(word >> 24)
		digest[4*i+1] = byte(word >> 16)
		digest[4*i+2] = byte(word >> 8)
		digest[4*i+3] = byte(word)
	}
	return string(digest[:])
}

// padding is what stands behind a text of count bytes in the padded text.
func padding(count uint64) string {
	const most = pieceBytes + lengthBytes
	pad := [most]byte{0x80}
	size := most - (count+lengthBytes)%pieceBytes
	for i := range uint64(lengthBytes) {
		pad[size-1-i] = byte(count * 8 >> (8 * i))
	}
	return string(pad[:size])
}

func takePiece(state [8]uint32, piece *[pieceBytes]byte) [8]uint32 {
	w := schedule(piece)
	a, b, c, d, e, f, g, h := state[0], state[1], state[2], state[3], state[4], state[5], state[6], state[7]
	for t := range w {
		t1 := h + bigSigma1(e) + ((e & f) ^ (^e & g)) + roundWords[t] + w[t]
		t2 := bigSigma0(a) + ((a & b) ^ (a & c) ^ (b & c))
		a, b, c, d, e, f, g, h = t1+t2, a, b, c, d+t1, e, f, g
	}
	return [8]uint32{
		state[0] + a, state[1] + b, state[2] + c, state[3] + d,
		state[4] + e, state[5] + f, state[6] + g, state[7] + h,
	}
}

// schedule is the words W[0] to W[63] of a piece.
func schedule(piece *[pieceBytes]byte) [64]uint32 {
	var w [64]uint32
	for t := range 16 {
		w[t] = uint32(piece[4*t])<<24 | uint32(piece[4*t+1])<<16 | uint32(piece[4*t+2])<<8 | uint32(piece[4*t+3])
	}
	for t := 16; t < len(w); t++ {
		w[t] = w[t-16] + smallSigma0(w[t-15]) + w[t-7] + smallSigma1(w[t-2])
	}
	return w
}

func smallSigma0(x uint32) uint32 { return turnRight(x, 7) ^ turnRight(x, 18) ^ x>>3 }
func smallSigma1(x uint32) uint32 { return turnRight(x, 17) ^ turnRight(x, 19) ^ x>>10 }
func bigSigma0(x uint32) uint32   { return turnRight(x, 2) ^ turnRight(x, 13) ^ turnRight(x, 22) }
func bigSigma1(x uint32) uint32   { return turnRight(x, 6) ^ turnRight(x, 11) ^ turnRight(x, 25) }

func turnRight(x uint32, places int) uint32 { return bits.RotateLeft32(x, -places) }
