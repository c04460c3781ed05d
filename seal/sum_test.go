package seal_test

import (
	"crypto/sha256"
	"strings"
	"testing"

	"seneschal/seal"
)

// long is a text of n bytes, of which no two blocks are the same.
func long(n int) string {
	b := make([]byte, n)
	x := uint32(n)
	for i := range b {
		x = x*1664525 + 1013904223
		b[i] = byte(x >> 24)
	}
	return string(b)
}

func known(s string) string {
	sum := sha256.Sum256([]byte(s))
	return string(sum[:])
}

func short(s string) string {
	if len(s) > 40 {
		return s[:40] + ".."
	}
	return s
}

// sums holds the Sum of s, and that of a Hash that has s, against the well-known one.
func sums(t *testing.T, s, want string) {
	t.Helper()
	if got := seal.Sum(s); got != want {
		t.Errorf("Sum of %d bytes %q = %x, want %x", len(s), short(s), got, want)
	}
	h := seal.New()
	h.Write(s)
	if got := h.Sum(); got != want {
		t.Errorf("Sum of a Hash that has %d bytes %q = %x, want %x", len(s), short(s), got, want)
	}
}

// bytesOf answers the bytes that are written with base 16, without a look at the package.
func bytesOf(t *testing.T, s string) string {
	t.Helper()
	var out []byte
	for i := 0; i+1 < len(s); i += 2 {
		high, low := strings.IndexByte("0123456789abcdef", s[i]), strings.IndexByte("0123456789abcdef", s[i+1])
		if high < 0 || low < 0 {
			t.Fatal(s)
		}
		out = append(out, byte(16*high+low))
	}
	return string(out)
}

// P28: the sums that are told with FIPS 180-4.
func TestKnownSums(t *testing.T) {
	for _, r := range []struct{ text, sum string }{
		{"", "e3b0c44298fc1c149afbf4c8996fb92427ae41e4649b934ca495991b7852b855"},
		{"abc", "ba7816bf8f01cfea414140de5dae2223b00361a396177a9cb410ff61f20015ad"},
		{"abcdbcdecdefdefgefghfghighijhijkijkljklmklmnlmnomnopnopq", "248d6a61d20638b8e5c026930c3e6039a33ce45964ff2167f6ecedd419db06c1"},
		{"abcdefghbcdefghicdefghijdefghijkefghijklfghijklmghijklmnhijklmnoijklmnopjklmnopqklmnopqrlmnopqrsmnopqrstnopqrstu", "cf5b16a778af8380036ce59e7b0492370b249b11e8f07a51afac45037afee9d1"},
		{strings.Repeat("a", 1000000), "cdc76e5c9914fb9281a1c7e284d73e67f1809a48a497200e046d39ccc7112cd0"},
		{"\xbd", "68325720aabd7c82f30f554b313d0570c95accbb7dc4b5aae11204c08ffe732b"},
		{"\xc9\x8c\x8e\x55", "7abc22c0ae5af26ce93dbb94433a0e0b2e119d014f8e7f65bd56c61ccccd9504"},
		{strings.Repeat("\x00", 55), "02779466cdec163811d078815c633f21901413081449002f24aa3e80f0b88ef7"},
		{strings.Repeat("\x00", 56), "d4817aa5497628e7c77e6b606107042bbba3130888c5f47a375e6179be789fbb"},
		{strings.Repeat("\x00", 57), "65a16cb7861335d5ace3c60718b5052e44660726da4cd13bb745381b235a1785"},
		{strings.Repeat("\x00", 64), "f5a5fd42d16a20302798ef6ed309979b43003d2320d9f0e8ea9831a92759fb4b"},
		{strings.Repeat("\x00", 1000), "541b3e9daa09b20bf85fa273e5cbd3e80185aa4ec298e765db87742b70138a53"},
		{strings.Repeat("A", 1000), "c2e686823489ced2017f6059b8b239318b6364f6dcd835d0a519105a1eadd6e4"},
		{strings.Repeat("U", 1005), "f4d62ddec0f3dd90ea1380fa16a5ff8dc4c54b21740650f24afc4120903552b0"},
		{strings.Repeat("\x00", 1000000), "d29751f2649b32ff572b5e0a9f541ea660a50f94ff0beedfb0b692b924cc8025"},
	} {
		sums(t, r.text, bytesOf(t, r.sum))
	}
}

// P28: every length around the ends of blocks, where what stands behind the text fills one block or two.
func TestLengths(t *testing.T) {
	for n := range 330 {
		for _, s := range []string{long(n), strings.Repeat("\x00", n), strings.Repeat("\xff", n), strings.Repeat("\x80", n)} {
			sums(t, s, known(s))
		}
	}
	for _, n := range []int{1023, 1024, 1025, 4095, 4096, 4097, 8191, 8192, 8193, 65535, 65536, 65537, 1<<20 - 9, 1<<20 - 8, 1<<21 + 1, 1 << 21} {
		sums(t, long(n), known(long(n)))
	}
}

// P28: every byte, alone, among others, at each place of a block.
func TestEachByteSummed(t *testing.T) {
	all := make([]byte, 256)
	for c := range all {
		all[c] = byte(c)
		b := string([]byte{byte(c)})
		for _, s := range []string{b, b + b, "a" + b + "z", strings.Repeat(b, 55), strings.Repeat(b, 56), strings.Repeat(b, 64), strings.Repeat(b, 119), strings.Repeat(b, 120)} {
			sums(t, s, known(s))
		}
	}
	for from := range all {
		sums(t, string(all[from:])+string(all[:from]), known(string(all[from:])+string(all[:from])))
	}
}

// P28: each bit of a text is of weight, and so are bytes 0 behind it.
func TestEachBit(t *testing.T) {
	for _, n := range []int{1, 55, 56, 64, 65, 130} {
		s := []byte(long(n))
		first := seal.Sum(string(s))
		for i := range 8 * n {
			s[i/8] ^= 1 << (i % 8)
			sums(t, string(s), known(string(s)))
			if seal.Sum(string(s)) == first {
				t.Errorf("bit %d of %d bytes is of no weight", i, n)
			}
			s[i/8] ^= 1 << (i % 8)
		}
		if seal.Sum(string(s)+"\x00") == first || seal.Sum(string(s)+"\x80") == first {
			t.Errorf("a byte behind %d bytes is of no weight", n)
		}
	}
}

// P28: how many bits a text has takes more than 32 bits. (That text comes in pieces, since it takes half a gigabyte.)
func TestGreatLength(t *testing.T) {
	t.Parallel()
	const size = 1 << 20
	h, piece := seal.New(), strings.Repeat("Z", size)
	for range 1 << 29 / size {
		h.Write(piece)
	}
	if got, want := h.Sum(), bytesOf(t, "15a1868c12cc53951e182344277447cd0979536badcc512ad24c67e9b2d4f3dd"); got != want {
		t.Errorf("%x, want %x", got, want)
	}
}
