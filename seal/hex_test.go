package seal_test

import (
	"encoding/hex"
	"strings"
	"testing"

	"seneschal/api"
	"seneschal/seal"
)

func reads(t *testing.T, s, want string) {
	t.Helper()
	if got, e := seal.Unhex(s); got != want || e != api.OK {
		t.Errorf("Unhex(%q) = %q, %d, want %q", short(s), short(got), e, short(want))
	}
}

func refuses(t *testing.T, s string) {
	t.Helper()
	if got, e := seal.Unhex(s); got != "" || e != api.ErrForm {
		t.Errorf("Unhex(%q) = %q, %d, want nothing and ErrForm", short(s), short(got), e)
	}
}

// P29
func TestHex(t *testing.T) {
	for _, r := range []struct{ text, told string }{
		{"", ""}, {"\x00", "00"}, {"\xff", "ff"}, {"\x0f", "0f"}, {"\xf0", "f0"}, {"\x09\x0a", "090a"}, {"abc", "616263"},
		{"\x01\x23\x45\x67\x89\xab\xcd\xef", "0123456789abcdef"}, {"\x00\x00\x00", "000000"}, {"\u00e4", "c3a4"}, {"0F", "3046"},
	} {
		if got := seal.Hex(r.text); got != r.told {
			t.Errorf("Hex(%q) = %q, want %q", r.text, got, r.told)
		}
		reads(t, r.told, r.text)
	}
}

// P29: every byte, and back again.
func TestHexOfEachByte(t *testing.T) {
	all := ""
	for c := range 256 {
		b := string([]byte{byte(c)})
		all += b
		for _, s := range []string{b, b + "a", "a" + b, b + b} {
			told := seal.Hex(s)
			if told != hex.EncodeToString([]byte(s)) {
				t.Errorf("Hex(%q) = %q", s, told)
			}
			reads(t, told, s)
		}
	}
	reads(t, seal.Hex(all), all)
	reads(t, seal.Hex(seal.Hex(all)), seal.Hex(all))
	for _, n := range []int{31, 32, 33, 1000, 100001} {
		if told := seal.Hex(long(n)); told != hex.EncodeToString([]byte(long(n))) {
			t.Errorf("Hex of %d bytes", n)
		}
		reads(t, seal.Hex(long(n)), long(n))
	}
}

// P29: every text of one byte and of two.
func TestUnhexShortTexts(t *testing.T) {
	const signs = "0123456789abcdef"
	reads(t, "", "")
	for c := range 256 {
		one := string([]byte{byte(c)})
		refuses(t, one)
		for d := range 256 {
			two := one + string([]byte{byte(d)})
			high, low := strings.IndexByte(signs, byte(c)), strings.IndexByte(signs, byte(d))
			if high < 0 || low < 0 {
				refuses(t, two)
			} else {
				reads(t, two, string([]byte{byte(16*high + low)}))
			}
		}
	}
}

// P29: texts that are the Hex of nothing; several things that are wrong together are ErrForm as each alone.
func TestUnhexWrong(t *testing.T) {
	for _, s := range []string{
		"0", "f", "000", "00000", "0ff", // an odd number of signs
		"0F", "F0", "FF", "aA", "ABCDEF", "00ffFF", // great letters
		"0g", "g0", "zz", "/0", "0/", ":0", "0:", "`a", "a`", "@a", "a@", "Ga", "aG", "\x000", "0\x00", "\xff\xff", "\u00e4", "\u0660", // signs that are none
		" 00", "00 ", " 0", "0 ", "00 00", "00\n", "0\n", "0x00", "0x", "+1", "-1", "0_", "00,00", "..",
		"g", "G", "0G0", "00g", "F", " ", "\x00", "\xff", "0x0", "FFF", // an odd number, with signs that are none
	} {
		refuses(t, s)
	}
	right := seal.Hex(long(40))
	for i := range len(right) {
		for _, wrong := range []string{"g", "A", "F", " ", "\x00", "\xe4", "/", ":", "`", "@", "G"} {
			refuses(t, right[:i]+wrong+right[i+1:])
			refuses(t, right[:i]+wrong+right[i:])
		}
		refuses(t, right[:i]+right[i+1:])
		refuses(t, right[:i]+"0"+right[i:])
	}
	for _, piece := range []string{"0", "g", "\xff", "00", "0G"} {
		n := 100001
		if s := strings.Repeat(piece, n); piece == "00" {
			reads(t, s, strings.Repeat("\x00", n))
		} else {
			refuses(t, s)
		}
	}
}
