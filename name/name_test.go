package name_test

import (
	"regexp"
	"strings"
	"testing"
	"unsafe"

	"seneschal/api"
	"seneschal/name"
)

type row struct {
	text string
	want api.Errno
}

func of(n int) string { return strings.Repeat("a", n) }

func ask(t *testing.T, call string, f func(string) api.Errno, rows []row) {
	t.Helper()
	for _, r := range rows {
		if e := f(r.text); e != r.want {
			t.Errorf("%s(%q) = %d, want %d", call, r.text, e, r.want)
		}
	}
}

// P3
func TestCheck(t *testing.T) {
	ask(t, "Check", name.Check, []row{
		{"db-1", api.OK}, {"web", api.OK}, {"1", api.OK}, {"z", api.OK}, {"0-9", api.OK}, {"a--b", api.OK}, {"9a", api.OK},
		{"", api.ErrName}, {"-", api.ErrName}, {"-a", api.ErrName}, {"db-", api.ErrName}, {"--", api.ErrName},
		{"Db", api.ErrName}, {"dB", api.ErrName}, {"a_b", api.ErrName}, {"a.b", api.ErrName}, {"a/b", api.ErrName},
		{"a b", api.ErrName}, {" a", api.ErrName}, {"a\n", api.ErrName}, {"a\x00b", api.ErrName},
		{"\u00e4", api.ErrName}, {"a\u00e4b", api.ErrName}, {"a\x80b", api.ErrName}, {"a\xff", api.ErrName}, {"\u0430", api.ErrName},
		{of(62), api.OK}, {of(63), api.OK}, {of(64), api.ErrLarge}, {of(65), api.ErrLarge}, {of(100000), api.ErrLarge},
		{of(62) + "-", api.ErrName}, {"-" + of(62), api.ErrName}, {of(31) + "-" + of(31), api.OK}, {of(62) + "A", api.ErrName},
		// Both apply: the length is told first.
		{of(63) + "-", api.ErrLarge}, {"-" + of(63), api.ErrLarge}, {strings.Repeat("A", 64), api.ErrLarge},
		// Bytes count, not runes.
		{strings.Repeat("\u00e4", 31), api.ErrName}, {strings.Repeat("\u00e4", 32), api.ErrLarge},
	})
}

// P3
func TestJoin(t *testing.T) {
	for _, r := range []struct {
		a, b, text string
		want       api.Errno
	}{
		{"a", "b", "a-b", api.OK},
		{"db-1", "web", "db-1-web", api.OK},
		{"1", "1", "1-1", api.OK},
		{of(31), of(31), of(31) + "-" + of(31), api.OK},
		{of(61), "b", of(61) + "-b", api.OK},
		{"b", of(61), "b-" + of(61), api.OK},
		{of(62), "b", "", api.ErrLarge},
		{"b", of(62), "", api.ErrLarge},
		{of(63), of(63), "", api.ErrLarge},
		{"", "", "", api.ErrName},
		{"", "b", "", api.ErrName},
		{"a", "", "", api.ErrName},
		{"a-", "b", "", api.ErrName},
		{"a", "-b", "", api.ErrName},
		{"A", "b", "", api.ErrName},
		{"a", "B", "", api.ErrName},
		{"a", "\u00e4", "", api.ErrName},
		{of(64), "b", "", api.ErrLarge},
		{"a", of(64), "", api.ErrLarge},
		// Several apply: a is looked at first, then b, then both.
		{"A", of(64), "", api.ErrName},
		{of(64), "B", "", api.ErrLarge},
		{of(63), "B", "", api.ErrName},
		{"-", of(63), "", api.ErrName},
	} {
		s, e := name.Join(r.a, r.b)
		if s != r.text || e != r.want {
			t.Errorf("Join(%q, %q) = %q, %d, want %q, %d", r.a, r.b, s, e, r.text, r.want)
		}
	}
}

// P4
func TestCheckKey(t *testing.T) {
	ask(t, "CheckKey", name.CheckKey, []row{
		{"x", api.OK}, {"X", api.OK}, {"7", api.OK}, {"app", api.OK}, {"A-b_c.D", api.OK}, {"a..b", api.OK}, {"a-_.b", api.OK},
		{"a/b", api.OK}, {"a/B", api.OK}, {"a.b/X_1", api.OK}, {"a-1.b-2.c/x", api.OK}, {"1/1", api.OK},
		{"", api.ErrName}, {"/", api.ErrName}, {"a/", api.ErrName}, {"/a", api.ErrName}, {"//", api.ErrName}, {"a//b", api.ErrName},
		{"a/b/c", api.ErrName}, {"a/b/", api.ErrName}, {"/a/b", api.ErrName}, {"a/b/c/d", api.ErrName},
		{"-", api.ErrName}, {"_", api.ErrName}, {".", api.ErrName},
		{"-a", api.ErrName}, {"_a", api.ErrName}, {".a", api.ErrName}, {"a-", api.ErrName}, {"a_", api.ErrName}, {"a.", api.ErrName},
		{"a/-b", api.ErrName}, {"a/_b", api.ErrName}, {"a/.b", api.ErrName}, {"a/b-", api.ErrName}, {"a/b_", api.ErrName}, {"a/b.", api.ErrName},
		{"a..b/c", api.ErrName}, {".a/c", api.ErrName}, {"a./c", api.ErrName}, {"./c", api.ErrName},
		{"-a/c", api.ErrName}, {"a-/c", api.ErrName}, {"a.-b/c", api.ErrName}, {"a-.b/c", api.ErrName},
		{"A/c", api.ErrName}, {"a.B/c", api.ErrName}, {"a_b/c", api.ErrName},
		{"a b", api.ErrName}, {"a\n", api.ErrName}, {"a:b", api.ErrName}, {"a@b", api.ErrName}, {"a[b", api.ErrName}, {"a`b", api.ErrName}, {"a{b", api.ErrName},
		{"\u00e4", api.ErrName}, {"a\u00e4b", api.ErrName}, {"a\x80b", api.ErrName}, {"a\xffb/c", api.ErrName}, {"a/b\xffc", api.ErrName},
		{of(63), api.OK}, {of(64), api.ErrName}, {of(65), api.ErrLarge},
		{"a/" + of(62), api.OK}, {"a/" + of(63), api.ErrLarge},
		{of(62) + "/a", api.OK}, {of(63) + "/", api.ErrName}, {"/" + of(63), api.ErrName}, {of(63) + "/a", api.ErrLarge},
		{of(30) + "." + of(31) + "/a", api.OK}, {of(30) + "." + of(32) + "/a", api.ErrLarge},
		// Both apply: the length is told first.
		{of(64) + "-", api.ErrLarge}, {strings.Repeat("/", 64), api.ErrName}, {strings.Repeat("/", 65), api.ErrLarge},
		{strings.Repeat("\u00e4", 32), api.ErrName}, {strings.Repeat("\u00e4", 33), api.ErrLarge},
	})
}

// P4
func TestCheckVal(t *testing.T) {
	ask(t, "CheckVal", name.CheckVal, []row{
		{"", api.OK}, {"x", api.OK}, {"X", api.OK}, {"7", api.OK}, {"v1.2-rc_3", api.OK}, {"a--b", api.OK}, {"a..b", api.OK},
		{"-", api.ErrName}, {"_", api.ErrName}, {".", api.ErrName}, {"-a", api.ErrName}, {"a-", api.ErrName},
		{"_a", api.ErrName}, {"a_", api.ErrName}, {".a", api.ErrName}, {"a.", api.ErrName},
		{"a/b", api.ErrName}, {"/", api.ErrName}, {" ", api.ErrName}, {"a b", api.ErrName}, {"a\x00", api.ErrName},
		{"\u00e4", api.ErrName}, {"a\u00e4b", api.ErrName}, {"a\x80b", api.ErrName}, {"\xff", api.ErrName},
		{of(63), api.OK}, {of(64), api.ErrLarge}, {of(65), api.ErrLarge}, {of(62) + "-", api.ErrName},
		// Both apply: the length is told first.
		{of(63) + "-", api.ErrLarge}, {strings.Repeat("/", 64), api.ErrLarge},
		{strings.Repeat("\u00e4", 31), api.ErrName}, {strings.Repeat("\u00e4", 32), api.ErrLarge},
	})
}

// P3, P4: every byte, alone and in the middle, at the beginning and at the end of a text, behind and ahead of a `/`.
func TestEachByte(t *testing.T) {
	for c := range 256 {
		b := string([]byte{byte(c)})
		for _, s := range []string{b, "a" + b + "a", b + "a", "a" + b, "a/a" + b + "a", "a/" + b, "a" + b + "a/a", b + "/a"} {
			hold(t, s)
		}
	}
}

// P3, P4: every short text of a few bytes, one at least of each sort.
func TestShortTexts(t *testing.T) {
	const signs = "aZ5-_./\xe4"
	texts := []string{""}
	for range 5 {
		var longer []string
		for _, s := range texts {
			hold(t, s)
			for i := range len(signs) {
				longer = append(longer, s+signs[i:i+1])
			}
		}
		texts = longer
	}
	for _, s := range texts {
		hold(t, s)
	}
}

const (
	nameForm = `[a-z0-9](?:[-a-z0-9]*[a-z0-9])?`
	lastForm = `[a-zA-Z0-9](?:[-_.a-zA-Z0-9]*[a-zA-Z0-9])?`
)

var (
	nameExp = regexp.MustCompile(`\A` + nameForm + `\z`)
	keyExp  = regexp.MustCompile(`\A(?:` + nameForm + `(?:\.` + nameForm + `)*/)?` + lastForm + `\z`)
	valExp  = regexp.MustCompile(`\A(?:` + lastForm + `)?\z`)
)

// hold holds the answers for a short text against the forms as regular expressions have them.
func hold(t *testing.T, s string) {
	t.Helper()
	want := func(x *regexp.Regexp) api.Errno {
		if x.MatchString(s) {
			return api.OK
		}
		return api.ErrName
	}
	if e := name.Check(s); e != want(nameExp) {
		t.Errorf("Check(%q) = %d", s, e)
	}
	if e := name.CheckKey(s); e != want(keyExp) {
		t.Errorf("CheckKey(%q) = %d", s, e)
	}
	if e := name.CheckVal(s); e != want(valExp) {
		t.Errorf("CheckVal(%q) = %d", s, e)
	}
}

// P2: what Join answers is new memory, even where it stands in what was handed in already.
func TestJoinIsNew(t *testing.T) {
	text := strings.Clone("web-db")
	s, e := name.Join(text[:3], text[4:])
	if s != text || e != api.OK {
		t.Fatal(s, e)
	}
	if unsafe.StringData(s) == unsafe.StringData(text) {
		t.Error("the answer shares memory with what was handed in")
	}
}

// P1: texts far beyond the bounds are answered as well.
func TestLongTexts(t *testing.T) {
	for _, piece := range []string{"a", "/", ".", "-", "\xff", "\x00"} {
		s := strings.Repeat(piece, 1<<16)
		if name.Check(s) != api.ErrLarge || name.CheckKey(s) != api.ErrLarge || name.CheckVal(s) != api.ErrLarge {
			t.Errorf("many %q", piece)
		}
		if j, e := name.Join(s, s); j != "" || e != api.ErrLarge {
			t.Errorf("Join of many %q: %d", piece, e)
		}
	}
}
