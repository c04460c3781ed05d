package seal

import "math/bits"

const (
	blockSize = 64 // bytes of a block
	rounds    = 64 // rounds by which a block is mixed in
)

// block is what is mixed into a state at once.
type block [blockSize]byte

// state is the numbers h0 to h7 of the chapter.
type state [8]uint32

// cubeRoots are the numbers k of the chapter: of the cube roots of the first 64 primes.
var cubeRoots = [rounds]uint32{
	0x428a2f98, 0x71374491, 0xb5c0fbcf, 0xe9b5dba5, 0x3956c25b, 0x59f111f1, 0x923f82a4, 0xab1c5ed5,
	0xd807aa98, 0x12835b01, 0x243185be, 0x550c7dc3, 0x72be5d74, 0x80deb1fe, 0x9bdc06a7, 0xc19bf174,
	0xe49b69c1, 0xefbe4786, 0x0fc19dc6, 0x240ca1cc, 0x2de92c6f, 0x4a7484aa, 0x5cb0a9dc, 0x76f988da,
	0x983e5152, 0xa831c66d, 0xb00327c8, 0xbf597fc7, 0xc6e00bf3, 0xd5a79147, 0x06ca6351, 0x14292967,
	0x27b70a85, 0x2e1b2138, 0x4d2c6dfc, 0x53380d13, 0x650a7354, 0x766a0abb, 0x81c2c92e, 0x92722c85,
	0xa2bfe8a1, 0xa81a664b, 0xc24b8b70, 0xc76c51a3, 0xd192e819, 0xd6990624, 0xf40e3585, 0x106aa070,
	0x19a4c116, 0x1e376c08, 0x2748774c, 0x34b0bcb5, 0x391c0cb3, 0x4ed8aa4a, 0x5b9cca4f, 0x682e6ff3,
	0x748f82ee, 0x78a5636f, 0x84c87814, 0x8cc70208, 0x90befffa, 0xa4506ceb, 0xbef9a3f7, 0xc67178f2,
}

// firstState answers what h0 to h7 begin as: of the square roots of the first eight primes.
func firstState() state {
	return state{
		0x6a09e667, 0xbb67ae85, 0x3c6ef372, 0xa54ff53a, 0x510e527f, 0x9b05688c, 0x1f83d9ab, 0x5be0cd19,
	}
}

// mix answers what becomes of a state by one more block; the letters are the chapter's.
func mix(s state, more block) state {
	a, b, c, d, e, f, g, h := s[0], s[1], s[2], s[3], s[4], s[5], s[6], s[7]
	for i, w := range spread(more) {
		t1 := h + great1(e) + chosen(e, f, g) + cubeRoots[i] + w
		t2 := great0(a) + most(a, b, c)
		h, g, f, e, d, c, b, a = g, f, e, d+t1, c, b, a, t1+t2
	}
	return state{s[0] + a, s[1] + b, s[2] + c, s[3] + d, s[4] + e, s[5] + f, s[6] + g, s[7] + h}
}

// spread answers the numbers w of a block.
func spread(b block) [rounds]uint32 {
	var w [rounds]uint32
	for i := range blockSize / 4 {
		w[i] = uint32(b[4*i])<<24 | uint32(b[4*i+1])<<16 | uint32(b[4*i+2])<<8 | uint32(b[4*i+3])
	}
	for i := blockSize / 4; i < rounds; i++ {
		w[i] = w[i-16] + small0(w[i-15]) + w[i-7] + small1(w[i-2])
	}
	return w
}

// bytesOf answers the bytes of a state.
func bytesOf(s state) string {
	out := make([]byte, 0, 4*len(s))
	for _, x := range s {
		out = append(out, byte(x>>24), byte(x>>16), byte(x>>8), byte(x))
	}
	return string(out)
}

func small0(x uint32) uint32 { return turned(x, 7) ^ turned(x, 18) ^ x>>3 }
func small1(x uint32) uint32 { return turned(x, 17) ^ turned(x, 19) ^ x>>10 }
func great0(x uint32) uint32 { return turned(x, 2) ^ turned(x, 13) ^ turned(x, 22) }
func great1(x uint32) uint32 { return turned(x, 6) ^ turned(x, 11) ^ turned(x, 25) }

func turned(x uint32, n int) uint32 { return bits.RotateLeft32(x, -n) }

// chosen answers the bits of f where e has 1, and of g where it has 0.
func chosen(e, f, g uint32) uint32 { return e&f | ^e&g }

// most answers the bits that at least two of them have.
func most(a, b, c uint32) uint32 { return a&b | a&c | b&c }
