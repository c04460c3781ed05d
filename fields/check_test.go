package fields_test

import (
	"slices"
	"strconv"
	"strings"
	"testing"

	"seneschal/api"
	"seneschal/fields"
)

func owned(manager string, paths ...string) api.Owned {
	return api.Owned{Manager: manager, Paths: paths}
}

func list(l ...api.Owned) []api.Owned {
	return l
}

// managers is n of them, each with one leaf of its own: `/m1` of `m1`, and so on.
func managers(n int) []api.Owned {
	var l []api.Owned
	for i := range n {
		l = append(l, owned("m"+strconv.Itoa(i+1), "/m"+strconv.Itoa(i+1)))
	}
	return l
}

func checks(t *testing.T, l []api.Owned, e api.Errno) {
	t.Helper()
	if f := fields.Check(l); f != e {
		t.Errorf("Check(%.200q) = %d, want %d", l, f, e)
	}
}

// P26: what is as it must be.
func TestCheckOK(t *testing.T) {
	checks(t, nil, api.OK)
	checks(t, list(), api.OK)
	for n := range 7 {
		checks(t, managers(n), api.OK)
	}
	checks(t, list(owned("a", "/a")), api.OK)
	// One leaf may be had by several.
	checks(t, list(owned("a", "/a", "/b"), owned("b", "/a", "/b"), owned("c", "/b")), api.OK)
	// Pointers may touch, of one manager and of several.
	checks(t, list(owned("a", "/a", "/a/b", "/a/b/c"), owned("b", "/a/b")), api.OK)
	// Names rise byte by byte.
	checks(t, list(owned("0", "/a"), owned("10", "/a"), owned("9", "/a"), owned("a", "/a"), owned("a-b", "/a"), owned("ab", "/a")), api.OK)
	checks(t, list(owned(strings.Repeat("a", 62), "/a"), owned(strings.Repeat("a", 63), "/a")), api.OK)
	checks(t, list(owned("a", "/", "//", "///", "/a", "/a!", "/a/b", "/a0", "/ab", "/b", "/~0", "/~00", "/~01", "/~0~1", "/~1", "/~1~0", "/\xff")), api.OK)
	checks(t, list(owned("a", strings.Repeat("/a", 10))), api.OK)
	checks(t, list(owned("a", strings.Repeat("/", 10))), api.OK)
	checks(t, list(owned("a", "/"+strings.Repeat("~0~1x", 10000))), api.OK)
	checks(t, list(owned("a", rowPaths(100, 900)...)), api.OK)
}

// P26: too many managers, ahead of all that is wrong with them.
func TestCheckMany(t *testing.T) {
	checks(t, managers(7), api.ErrLarge)
	checks(t, managers(9), api.ErrLarge)
	checks(t, make([]api.Owned, 7), api.ErrLarge)
	checks(t, make([]api.Owned, 6), api.ErrName)
	checks(t, append(list(owned("-", "x")), managers(6)...), api.ErrLarge)
}

// P26: each manager's name, in turn.
func TestCheckName(t *testing.T) {
	for _, w := range []mistake{{"", api.ErrName}, {"-", api.ErrName}, {"a-", api.ErrName}, {"-a", api.ErrName}, {"A", api.ErrName}, {"a.b", api.ErrName}, {"a_", api.ErrName}, {"a/b", api.ErrName}, {"\xff", api.ErrName},
		{strings.Repeat("a", 64), api.ErrLarge}, {strings.Repeat("-", 64), api.ErrLarge}} {
		checks(t, list(owned(w.s, "/a")), w.e)
		for i := range 6 {
			l := managers(6)
			l[i].Manager = w.s
			checks(t, l, w.e)
			// Ahead of what is wrong with the same one's pointers, and with those behind it.
			l[i].Paths = []string{"x"}
			checks(t, l, w.e)
			l[i].Paths = nil
			checks(t, l, w.e)
			for j := i + 1; j < 6; j++ {
				l[j] = owned("", "x")
			}
			checks(t, l, w.e)
		}
	}
}

// P26: managers rise, and none is there twice.
func TestCheckManagersRise(t *testing.T) {
	for _, names := range [][2]string{{"a", "a"}, {"b", "a"}, {"ab", "a"}, {"9", "10"}, {"a", "9"}, {"ab", "a-b"}, {"m2", "m1"}} {
		checks(t, list(owned(names[0], "/a"), owned(names[1], "/b")), api.ErrArg)
		checks(t, list(owned("0", "/a"), owned(names[0], "/a"), owned(names[1], "/b")), api.ErrArg)
		checks(t, list(owned(names[0], "/a"), owned(names[1], "/b"), owned("z", "x")), api.ErrArg)
		// Ahead of the pointers of the same one, behind those of the one ahead of it.
		checks(t, list(owned(names[0], "/a"), owned(names[1], "x")), api.ErrArg)
		checks(t, list(owned(names[0], "x"), owned(names[1], "/a")), api.ErrForm)
		checks(t, list(owned(names[0], strings.Repeat("/a", 11)), owned(names[1], "/a")), api.ErrLarge)
	}
	// Whom one is held against is the one ahead of it alone.
	l := managers(6)
	l[5].Manager = "m5"
	checks(t, l, api.ErrArg)
	l[5].Manager = "m4"
	checks(t, l, api.ErrArg)
	l[5].Manager = "m50"
	checks(t, l, api.OK)
}

// P26: what is wrong with each pointer, in turn.
func TestCheckPaths(t *testing.T) {
	for _, w := range []mistake{
		{"", api.ErrArg}, // no step
		{"x", api.ErrForm},
		{"a/b", api.ErrForm},
		{"~0", api.ErrForm},
		{"/~", api.ErrForm},
		{"/~2", api.ErrForm},
		{"/~~0", api.ErrForm},
		{"/a~/b", api.ErrForm},
		{strings.Repeat("/a", 11), api.ErrLarge},
		{strings.Repeat("/", 11), api.ErrLarge},
		{strings.Repeat("/~2", 11), api.ErrForm},
	} {
		checks(t, list(owned("a", w.s)), w.e)
		checks(t, list(owned("a", "/", w.s)), w.e)
		checks(t, list(owned("a", "/", "/0", w.s)), w.e)
		checks(t, list(owned("a", w.s, "/a", "/a", "x")), w.e)
		// What Steps says comes ahead of what is wrong with the order.
		checks(t, list(owned("a", "/zz", w.s)), w.e)
		for i := range 6 {
			l := managers(6)
			l[i].Paths = []string{"/", w.s}
			checks(t, l, w.e)
			for j := i + 1; j < 6; j++ {
				l[j] = owned("", "x")
			}
			checks(t, l, w.e)
		}
	}
	// The first of those that are wrong in several ways.
	checks(t, list(owned("a", "/b", "/a", "x")), api.ErrArg)
	checks(t, list(owned("a", "/b", "x", "/a")), api.ErrForm)
	checks(t, list(owned("a", "", "x")), api.ErrArg)
	checks(t, list(owned("a", "/a", "/b"+strings.Repeat("/a", 10), "x")), api.ErrLarge)
}

// P26: pointers rise byte by byte as they are written, and none is there twice.
func TestCheckPathsRise(t *testing.T) {
	for _, p := range [][]string{{"/a", "/a"}, {"/b", "/a"}, {"/a/b", "/a"}, {"/a/b", "/a!"}, {"/a0", "/a/b"}, {"/~1", "/~0"}, {"/~0", "/z"}, {"/9", "/10"}, {"/a", "/"}, {"/", "/"}, {"/", ""}, {"/a", "/c", "/b"}, {"/a", "/b", "/a"}} {
		checks(t, list(owned("a", p...)), api.ErrArg)
		checks(t, list(owned("0", "/zzz"), owned("a", p...), owned("-", "x")), api.ErrArg)
	}
	// Of several managers they need not rise.
	checks(t, list(owned("a", "/b"), owned("b", "/a")), api.OK)
}

// P26: a pointer is told as ptr.Join would tell it: with `~0` and `~1`, and with nothing else that would stand for something.
func TestCheckTold(t *testing.T) {
	for _, p := range []string{"/%2F", "/a b", "/\\", "/\"", "/\n", "/01", "/-", "/~0", "/~1", "/~01", "/~00", "/~10", "/~11"} {
		checks(t, list(owned("a", p)), api.OK)
	}
	for _, p := range []string{"/~", "/a~", "/~a", "/~/", "/~2", "/~~", "/~\x00", "/~0~"} {
		checks(t, list(owned("a", p)), api.ErrForm)
	}
}

// P26: a manager without pointers.
func TestCheckNoPaths(t *testing.T) {
	checks(t, list(owned("a")), api.ErrArg)
	checks(t, list(api.Owned{Manager: "a", Paths: []string{}}), api.ErrArg)
	for i := range 6 {
		l := managers(6)
		l[i].Paths = nil
		checks(t, l, api.ErrArg)
		if i > 0 {
			l[i-1].Paths = []string{"x"}
			checks(t, l, api.ErrForm)
			l[i-1].Paths = slices.Repeat([]string{"/a"}, 2)
			checks(t, l, api.ErrArg)
		}
		for j := i; j < 6; j++ {
			l[j] = owned("")
		}
		if i == 0 {
			checks(t, l, api.ErrName)
		}
	}
	checks(t, list(owned("a"), owned("-")), api.ErrArg)
	checks(t, list(owned("-"), owned("a")), api.ErrName)
}
