package seal_test

import (
	"strings"
	"testing"
	"unsafe"

	"seneschal/api"
	"seneschal/seal"
)

func within(s, whole string) bool {
	if s == "" || whole == "" {
		return false
	}
	at, begin := uintptr(unsafe.Pointer(unsafe.StringData(s))), uintptr(unsafe.Pointer(unsafe.StringData(whole)))
	return begin <= at && at < begin+uintptr(len(whole))
}

func apart(t *testing.T, call, told string, given ...string) {
	t.Helper()
	for _, g := range given {
		if within(told, g) || within(g, told) {
			t.Errorf("%s shares memory with what was handed in, or with what was told before", call)
		}
	}
}

// loose is a text whose bytes can be made others behind the package's back.
func loose(s string) (string, []byte) {
	b := []byte(s)
	return unsafe.String(unsafe.SliceData(b), len(b)), b
}

// P2: what is told is new memory.
func TestMemory(t *testing.T) {
	for _, n := range []int{1, 16, 32, 64, 65, 200} {
		key, s := long(n), long(n+1)
		apart(t, "Sum", seal.Sum(s), s, seal.Sum(s))
		apart(t, "Mac", seal.Mac(key, s), key, s, seal.Mac(key, s))
		told := seal.Hex(s)
		apart(t, "Hex", told, s, seal.Hex(s))
		read, e := seal.Unhex(told)
		again, _ := seal.Unhex(told)
		if read != s || e != api.OK {
			t.Errorf("Unhex(%q) = %q, %d", told, read, e)
		}
		apart(t, "Unhex", read, told, s, again)
		h := write(s)
		apart(t, "Hash.Sum", h.Sum(), s, h.Sum(), seal.Sum(s))
	}
}

// P2: what is handed in stays as it was, and is not kept.
func TestHandedIn(t *testing.T) {
	for _, n := range []int{0, 1, 40, 55, 63, 64, 65, 127, 128, 200} {
		text := strings.Repeat("5f", n)
		s, b := loose(text)
		key, k := loose(long(n))
		h := write("ahead", s)
		answers := func() []string {
			read, _ := seal.Unhex(s)
			return []string{seal.Sum(s), seal.Mac(key, s), seal.Hex(s), read, h.Sum()}
		}
		first := answers()
		before := strings.Clone(strings.Join(first, "|"))
		if string(b) != text || string(k) != long(n) {
			t.Errorf("what was handed in has become %q, %q", k, b)
		}
		copy(b, strings.Repeat("0", len(b)))
		clear(k)
		has(t, h, "ahead"+text)
		if strings.Join(first, "|") != before {
			t.Error("what was told has become other")
		}
		h.Write("behind")
		has(t, h, "ahead"+text+"behind")
	}
}

// P2: nothing is kept from call to call.
func TestAnew(t *testing.T) {
	for range 3 {
		sums(t, "abc", known("abc"))
		macs(t, "key", "abc")
		refuses(t, "0g")
		reads(t, "616263", "abc")
		sums(t, "", known(""))
		macs(t, "", "")
		refuses(t, "616")
		reads(t, "", "")
		write(long(100)).Write("and more")
		has(t, seal.New(), "")
	}
}

// P1: a Hash that New has not made answers something, whatever it is, and so does one that was copied: it goes on by itself.
func TestOtherHashes(t *testing.T) {
	var h seal.Hash
	h.Write("abc")
	h.Write(long(200))
	if len(h.Sum()) != 32 {
		t.Error("no sum")
	}
	one := write(long(70))
	two := *one
	one.Write("one")
	two.Write("two")
	has(t, one, long(70)+"one")
	has(t, &two, long(70)+"two")
}
