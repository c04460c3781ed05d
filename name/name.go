// Package name says which texts are names, keys of labels and their values: see doc/01-name.md.
package name

import (
	"strings"

	"seneschal/api"
)

// Check answers OK if s is a NAME.
func Check(s string) api.Errno {
	return judge(s, api.MaxName, isName)
}

// CheckKey answers OK if s is a KEY.
func CheckKey(s string) api.Errno {
	return judge(s, api.MaxKey, isKey)
}

// CheckVal answers OK if s is a VAL.
func CheckVal(s string) api.Errno {
	return judge(s, api.MaxName, isVal)
}

// Join makes one NAME of two.
func Join(a, b string) (string, api.Errno) {
	if e := Check(a); e != api.OK {
		return "", e
	}
	if e := Check(b); e != api.OK {
		return "", e
	}
	both := a + "-" + b
	if e := Check(both); e != api.OK {
		return "", e
	}
	return both, api.OK
}

// judge asks for the length first: a text that is too long is ErrLarge, whatever else is wrong with it.
func judge(s string, most int, fits func(string) bool) api.Errno {
	if len(s) > most {
		return api.ErrLarge
	}
	if !fits(s) {
		return api.ErrName
	}
	return api.OK
}

func isName(s string) bool {
	return isWord(s, isSmallOrDigit, "-")
}

func isKey(s string) bool {
	ahead, last, two := strings.Cut(s, "/")
	if !two {
		return isLast(s)
	}
	// A third part needs no look of its own: its `/` would stand in last, which bars it.
	return isNames(ahead) && isLast(last)
}

func isVal(s string) bool {
	return s == "" || isLast(s)
}

// isLast tells whether s can be the last part of a key.
func isLast(s string) bool {
	return isWord(s, isLetterOrDigit, "-_.")
}

// isNames tells whether s is a NAME, or several with a `.` between each.
func isNames(s string) bool {
	for _, part := range strings.Split(s, ".") {
		if !isName(part) {
			return false
		}
	}
	return true
}

// isWord tells whether s has 1 to MaxName bytes, plain ones or signs, with plain ones at both ends.
// It counts bytes itself, since a key may be longer than its last part.
func isWord(s string, plain func(byte) bool, signs string) bool {
	n := len(s)
	if n < 1 || n > api.MaxName || !plain(s[0]) || !plain(s[n-1]) {
		return false
	}
	for i := 0; i < n; i++ {
		if !plain(s[i]) && strings.IndexByte(signs, s[i]) < 0 {
			return false
		}
	}
	return true
}

func isSmallOrDigit(c byte) bool {
	return 'a' <= c && c <= 'z' || '0' <= c && c <= '9'
}

func isLetterOrDigit(c byte) bool {
	return isSmallOrDigit(c) || 'A' <= c && c <= 'Z'
}
