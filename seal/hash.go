package seal

import "strings"

// Hash makes the Sum of a text that comes piece by piece.
type Hash struct {
	mixed state  // what all full blocks have made
	rest  block  // begins with the bytes that fill no block yet
	many  uint64 // how many bytes it has in all
}

// New answers a Hash that has nothing.
func New() *Hash {
	return &Hash{mixed: firstState()}
}

// Write lays s behind what h has.
func (h *Hash) Write(s string) {
	for len(s) > 0 {
		n := copy(h.rest[h.many%blockSize:], s)
		h.many += uint64(n)
		s = s[n:]
		if h.many%blockSize == 0 {
			h.mixed = mix(h.mixed, h.rest)
		}
	}
}

// Sum answers the Sum of all that h has.
func (h *Hash) Sum() string {
	// What ends the text is written to a copy: h goes on as if nobody had asked.
	ended := *h
	ended.Write(ending(h.many))
	return bytesOf(ended.mixed)
}

// ending answers what stands behind a text of many bytes, so that both fill their blocks.
func ending(many uint64) string {
	size := make([]byte, 8)
	for i := range size {
		size[i] = byte(many * 8 >> (56 - 8*i))
	}
	over := (many + 1 + 8) % blockSize
	noughts := (blockSize - over) % blockSize
	return "\x80" + strings.Repeat("\x00", int(noughts)) + string(size)
}
