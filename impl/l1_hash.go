// Package impl: things that are told until they are known, whatever is lost on the way.
package impl

import "math/bits"

// Sizes of the sum's blocks, in bytes.
const (
	hashBlock  = 64
	hashLength = 8
)

const hashFigures = "0123456789abcdef"

// hashRounds is the fractional parts of the cube roots of the first 64 primes.
var hashRounds = [64]uint32{
	0x428a2f98, 0x71374491, 0xb5c0fbcf, 0xe9b5dba5, 0x3956c25b, 0x59f111f1, 0x923f82a4, 0xab1c5ed5,
	0xd807aa98, 0x12835b01, 0x243185be, 0x550c7dc3, 0x72be5d74, 0x80deb1fe, 0x9bdc06a7, 0xc19bf174,
	0xe49b69c1, 0xefbe4786, 0x0fc19dc6, 0x240ca1cc, 0x2de92c6f, 0x4a7484aa, 0x5cb0a9dc, 0x76f988da,
	0x983e5152, 0xa831c66d, 0xb00327c8, 0xbf597fc7, 0xc6e00bf3, 0xd5a79147, 0x06ca6351, 0x14292967,
	0x27b70a85, 0x2e1b2138, 0x4d2c6dfc, 0x53380d13, 0x650a7354, 0x766a0abb, 0x81c2c92e, 0x92722c85,
	0xa2bfe8a1, 0xa81a664b, 0xc24b8b70, 0xc76c51a3, 0xd192e819, 0xd6990624, 0xf40e3585, 0x106aa070,
	0x19a4c116, 0x1e376c08, 0x2748774c, 0x34b0bcb5, 0x391c0cb3, 0x4ed8aa4a, 0x5b9cca4f, 0x682e6ff3,
	0x748f82ee, 0x78a5636f, 0x84c87814, 0x8cc70208, 0x90befffa, 0xa4506ceb, 0xbef9a3f7, 0xc67178f2,
}

// hashState is what goes from block to block.
type hashState struct {
	words [8]uint32
}

// HashSum is the SHA-256 of a text, in 64 figures.
func HashSum(text string) string {
	state := hashStart()
	padded := hashPad(text)
	for at := 0; at < len(padded); at += hashBlock {
		state = state.behind(hashSpread(padded[at : at+hashBlock]))
	}
	return state.figures()
}

// hashStart has the fractional parts of the square roots of the first 8 primes.
func hashStart() hashState {
	return hashState{words: [8]uint32{
		0x6a09e667, 0xbb67ae85, 0x3c6ef372, 0xa54ff53a, 0x510e527f, 0x9b05688c, 0x1f83d9ab, 0x5be0cd19,
	}}
}

// hashPad is a text as whole blocks, with its length at the end.
func hashPad(text string) []byte {
	padded := append([]byte(text), 128)
	for len(padded)%hashBlock != hashBlock-hashLength {
		padded = append(padded, 0)
	}
	size := uint64(len(text)) * 8
	for shift := 56; shift >= 0; shift -= 8 {
		padded = append(padded, byte(size>>shift))
	}
	return padded
}

// hashSpread makes a word for each round out of a block.
func hashSpread(block []byte) [64]uint32 {
	var spread [64]uint32
	for i := range 16 {
		b := block[4*i : 4*i+4]
		spread[i] = uint32(b[0])<<24 | uint32(b[1])<<16 | uint32(b[2])<<8 | uint32(b[3])
	}
	for i := 16; i < len(spread); i++ {
		early, late := spread[i-15], spread[i-2]
		small := bits.RotateLeft32(early, -7) ^ bits.RotateLeft32(early, -18) ^ early>>3
		great := bits.RotateLeft32(late, -17) ^ bits.RotateLeft32(late, -19) ^ late>>10
		spread[i] = spread[i-16] + small + spread[i-7] + great
	}
	return spread
}

// behind is the state behind a block.
func (h hashState) behind(spread [64]uint32) hashState {
	turned := h
	for i, k := range hashRounds {
		turned = turned.round(k + spread[i])
	}
	for i := range h.words {
		h.words[i] += turned.words[i]
	}
	return h
}

// round is the state behind one round.
func (h hashState) round(add uint32) hashState {
	a, b, c, d := h.words[0], h.words[1], h.words[2], h.words[3]
	e, f, g := h.words[4], h.words[5], h.words[6]
	great := bits.RotateLeft32(e, -6) ^ bits.RotateLeft32(e, -11) ^ bits.RotateLeft32(e, -25)
	choice := e&f ^ ^e&g
	first := h.words[7] + great + choice + add
	small := bits.RotateLeft32(a, -2) ^ bits.RotateLeft32(a, -13) ^ bits.RotateLeft32(a, -22)
	most := a&b ^ a&c ^ b&c
	return hashState{words: [8]uint32{first + small + most, a, b, c, d + first, e, f, g}}
}

// figures writes the words, eight figures each.
func (h hashState) figures() string {
	var out []byte
	for _, word := range h.words {
		for shift := 28; shift >= 0; shift -= 4 {
			out = append(out, hashFigures[word>>shift&15])
		}
	}
	return string(out)
}
