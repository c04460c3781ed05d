package seal_test

import (
	"strings"
	"sync"
	"testing"

	"seneschal/seal"
)

// has holds the Sum of h against that of what it has; asked twice, since asking is of no weight.
func has(t *testing.T, h *seal.Hash, s string) {
	t.Helper()
	want := known(s)
	if got := h.Sum(); got != want {
		t.Errorf("Sum of a Hash that has %d bytes %q = %x, want %x", len(s), short(s), got, want)
	}
	if got := h.Sum(); got != want {
		t.Errorf("Sum of a Hash that has %d bytes %q, asked again, = %x, want %x", len(s), short(s), got, want)
	}
}

func write(pieces ...string) *seal.Hash {
	h := seal.New()
	for _, s := range pieces {
		h.Write(s)
	}
	return h
}

// P29: a Hash that has nothing, also where nothing is written.
func TestNothing(t *testing.T) {
	has(t, seal.New(), "")
	has(t, write(""), "")
	has(t, write("", "", ""), "")
	has(t, write("", "a", "", "", "bc", ""), "abc")
}

// P29: cuts at every place of texts around the ends of blocks, with empty pieces at the cut.
func TestCuts(t *testing.T) {
	for _, n := range []int{1, 2, 55, 56, 63, 64, 65, 119, 120, 127, 128, 129, 130, 192, 200, 257} {
		s := long(n)
		for i := range n + 1 {
			has(t, write(s[:i], s[i:]), s)
			has(t, write("", s[:i], "", s[i:], ""), s)
		}
	}
}

// P29: three pieces, cut at and around the ends of blocks.
func TestThreePieces(t *testing.T) {
	s := long(260)
	places := []int{0, 1, 8, 9, 55, 56, 57, 62, 63, 64, 65, 66, 119, 120, 126, 127, 128, 129, 130, 191, 192, 193, 255, 256, 257, 260}
	for _, i := range places {
		for _, j := range places {
			if i <= j {
				has(t, write(s[:i], s[i:j], s[j:]), s)
			}
		}
	}
}

// P29: pieces of one size, from single bytes on.
func TestPiecesOfOneSize(t *testing.T) {
	s := long(1000)
	for size := 1; size <= 200; size++ {
		h := seal.New()
		for at := 0; at < len(s); at += size {
			h.Write(s[at:min(at+size, len(s))])
		}
		has(t, h, s)
	}
}

// P29: a Sum on the way is that of what it has by then; it goes on from there.
func TestSumOnTheWay(t *testing.T) {
	s := long(400)
	for size := 1; size <= 130; size++ {
		h := seal.New()
		for at := 0; at < len(s); at += size {
			has(t, h, s[:at])
			h.Write("")
			has(t, h, s[:at])
			h.Write(s[at:min(at+size, len(s))])
		}
		has(t, h, s)
	}
	// What was told on the way stays as it was.
	h := write("a")
	one := h.Sum()
	h.Write(strings.Repeat("b", 200))
	two := h.Sum()
	h.Write("c")
	if one != known("a") || two != known("a"+strings.Repeat("b", 200)) {
		t.Errorf("told on the way: %x, %x", one, two)
	}
}

// P29: several Hashes have nothing to do with one another, nor with Sum and Mac.
func TestSeveral(t *testing.T) {
	const many = 7
	var hashes [many]*seal.Hash
	var texts [many]string
	for i := range hashes {
		hashes[i] = seal.New()
	}
	for turn := range 300 {
		i, piece := turn*turn%many, long(turn%67)
		hashes[i].Write(piece)
		texts[i] += piece
		sums(t, piece, known(piece))
		macs(t, piece, texts[i])
		for j, h := range hashes {
			has(t, h, texts[j])
		}
	}
	has(t, seal.New(), "")
}

// P29: the same, each Hash on a goroutine of its own.
func TestSeveralAtTheSameTime(t *testing.T) {
	var all sync.WaitGroup
	for i := range 8 {
		all.Go(func() {
			h, text := seal.New(), ""
			for turn := range 100 {
				piece := long(turn + i)
				h.Write(piece)
				text += piece
				has(t, h, text)
				macs(t, piece, text)
			}
		})
	}
	all.Wait()
}
