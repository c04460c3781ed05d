package seal_test

import (
	"crypto/hmac"
	"crypto/sha256"
	"strings"
	"testing"

	"seneschal/seal"
)

// macs holds the Mac against what the library has.
func macs(t *testing.T, key, s string) {
	t.Helper()
	h := hmac.New(sha256.New, []byte(key))
	h.Write([]byte(s))
	if got, want := seal.Mac(key, s), string(h.Sum(nil)); got != want {
		t.Errorf("Mac(%d bytes %q, %d bytes %q) = %x, want %x", len(key), short(key), len(s), short(s), got, want)
	}
}

// P29: those of RFC 4231.
func TestKnownMacs(t *testing.T) {
	for _, r := range []struct{ key, text, mac string }{
		{strings.Repeat("\x0b", 20), "Hi There", "b0344c61d8db38535ca8afceaf0bf12b881dc200c9833da726e9376c2e32cff7"},
		{"Jefe", "what do ya want for nothing?", "5bdcc146bf60754e6a042426089575c75a003f089d2739839dec58b964ec3843"},
		{strings.Repeat("\xaa", 20), strings.Repeat("\xdd", 50), "773ea91e36800e46854db8ebd09181a72959098b3ef8c122d9635514ced565fe"},
		{bytesOf(t, "0102030405060708090a0b0c0d0e0f10111213141516171819"), strings.Repeat("\xcd", 50), "82558a389a443c0ea4cc819899f2083a85f0faa3e578f8077a2e3ff46729665b"},
		{strings.Repeat("\x0c", 20), "Test With Truncation", "a3b6167473100ee06e0c796c2955552b"},
		{strings.Repeat("\xaa", 131), "Test Using Larger Than Block-Size Key - Hash Key First", "60e431591ee0b67f0d8a26aacbf5b77f8e0bc6213728c5140546040f0ee37f54"},
		{strings.Repeat("\xaa", 131), "This is a test using a larger than block-size key and a larger than block-size data. The key needs to be hashed before being used by the HMAC algorithm.", "9b09ffa71b942fcb27635fbcd5b0e944bfdc63644f0713938a7f51535c3a35e2"},
		{"", "", "b613679a0814d9ec772f95d778c35fc5ff1697c493715653c6c712144292c5ad"},
		{"key", "The quick brown fox jumps over the lazy dog", "f7bc83f430538424b13298e6aa6fb143ef4d59a14946175997479dbc2d1a3cd8"},
	} {
		got := seal.Mac(r.key, r.text)
		// Of one the RFC tells the beginning alone.
		if want := bytesOf(t, r.mac); len(got) != 32 || !strings.HasPrefix(got, want) {
			t.Errorf("Mac(%q, %q) = %x, want %s", short(r.key), short(r.text), got, r.mac)
		}
		macs(t, r.key, r.text)
	}
}

// P29: keys of every length up to that of two blocks and more, with texts of lengths around the ends of blocks.
func TestKeys(t *testing.T) {
	for n := range 140 {
		for _, size := range []int{0, 1, 54, 55, 56, 63, 64, 65, 119, 120, 128} {
			macs(t, long(n), long(size))
			macs(t, strings.Repeat("\x5c", n), long(size))
			macs(t, strings.Repeat("\x36", n), strings.Repeat("\x36", size))
		}
	}
	macs(t, long(100000), long(100001))
	for c := range 256 {
		b := string([]byte{byte(c)})
		macs(t, b, b)
		macs(t, strings.Repeat(b, 64), b)
		macs(t, strings.Repeat(b, 65), b)
	}
}

// P29: bytes 0 behind a key come there anyway, up to 64 bytes, but for a longer key its Sum is taken.
func TestNoughtsBehindKeys(t *testing.T) {
	for _, key := range []string{"", "k", "k\x00k", "\x00", long(32), long(63)} {
		want := seal.Mac(key, "text")
		for n := 1; len(key)+n <= 70; n++ {
			longer := key + strings.Repeat("\x00", n)
			macs(t, longer, "text")
			if same := seal.Mac(longer, "text") == want; same != (len(longer) <= 64) {
				t.Errorf("key of %d bytes with %d bytes 0 behind: the same is %v", len(key), n, same)
			}
		}
	}
	if seal.Mac("k", "text") == seal.Mac("\x00k", "text") {
		t.Error("a byte 0 ahead of a key is of no weight")
	}
	for _, n := range []int{65, 66, 127, 128, 129, 1000} {
		if key := long(n); seal.Mac(key, "text") != seal.Mac(seal.Sum(key), "text") {
			t.Errorf("key of %d bytes: its Sum is not taken", n)
		}
	}
	if key := long(64); seal.Mac(key, "text") == seal.Mac(seal.Sum(key), "text") {
		t.Error("key of 64 bytes: its Sum is taken")
	}
}

// P29: a key and a text are two things: where one ends and the other begins is of weight.
func TestKeyAndText(t *testing.T) {
	s := long(130)
	seen := map[string]int{}
	for n := range len(s) + 1 {
		mac := seal.Mac(s[:n], s[n:])
		macs(t, s[:n], s[n:])
		if other, is := seen[mac]; is {
			t.Errorf("cuts at %d and at %d have the same Mac", other, n)
		}
		seen[mac] = n
	}
}
