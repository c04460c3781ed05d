package token_test

import (
	"slices"
	"strings"
	"sync"
	"testing"
	"unsafe"

	"seneschal/api"
	"seneschal/token"
)

func within(s, whole string) bool {
	if s == "" || whole == "" {
		return false
	}
	at, begin := uintptr(unsafe.Pointer(unsafe.StringData(s))), uintptr(unsafe.Pointer(unsafe.StringData(whole)))
	return begin <= at && at < begin+uintptr(len(whole))
}

func apart(t *testing.T, call, told string, given ...string) {
	t.Helper()
	for _, g := range given {
		if within(told, g) || within(g, told) {
			t.Errorf("%s: %q shares memory with what was handed in, or with another text", call, told)
		}
	}
}

// loose is a text whose bytes can be made others behind the package's back.
func loose(s string) (string, []byte) {
	b := []byte(s)
	return unsafe.String(unsafe.SliceData(b), len(b)), b
}

// own is u in memory that nobody else has, with room behind the list of groups.
func own(u api.User) api.User {
	l := make([]string, 0, len(u.Groups)+2)
	for _, g := range u.Groups {
		l = append(l, strings.Clone(g))
	}
	copy(l[len(l):cap(l)], []string{"spare", "room"})
	return api.User{Name: strings.Clone(u.Name), Groups: l}
}

func whole(u api.User) []string {
	return slices.Concat([]string{u.Name}, u.Groups[:cap(u.Groups)])
}

// P2: what is told is new memory, each text by itself.
func TestMemory(t *testing.T) {
	for _, one := range people() {
		u, key := own(one), strings.Clone("key")
		text, e := token.Issue(key, u, 120)
		again, _ := token.Issue(key, u, 120)
		if e != api.OK {
			t.Fatal(e)
		}
		given := append(whole(u), key)
		apart(t, "Issue", text, append(given, again)...)
		told, e := token.Check(key, text, 120)
		if !same(told, one) || e != api.OK {
			t.Errorf("Check(%q) = %v, %d", text, told, e)
		}
		more, _ := token.Check(key, text, 120)
		all := append(whole(told), whole(more)...)
		for i, s := range all {
			apart(t, "Check", s, append(append(given, text, again), all[:i]...)...)
		}
	}
}

// P2: lists that are told share nothing, the room behind them included.
func TestLists(t *testing.T) {
	for _, one := range people() {
		text, _ := token.Issue("key", one, 120)
		first, _ := token.Check("key", text, 120)
		second, _ := token.Check("key", text, 120)
		for i := range first.Groups[:cap(first.Groups)] {
			first.Groups[:cap(first.Groups)][i] = "spoilt"
		}
		third, _ := token.Check("key", text, 120)
		if !same(second, one) || !same(third, one) || slices.Contains(whole(second), "spoilt") {
			t.Errorf("told of %q: %v, %v", text, second, third)
		}
	}
}

// P2: users that are handed in stay as they were, the room behind the groups too.
func TestHandedIn(t *testing.T) {
	l := append(people(), user("-", "a"), user("ann", "a", "b", "a", "c"), user("ann", groups(7)...), user("ann", "a", "", "b"), api.User{})
	for _, one := range l {
		u := own(one)
		before := slices.Clone(whole(u))
		for _, until := range []int{0, 9, -1} {
			token.CheckUser(u)
			token.Issue("key", u, until)
			token.Issue("", u, until)
		}
		if !slices.Equal(whole(u), before) {
			t.Errorf("what was handed in has become %q", whole(u))
		}
	}
}

// P2: what is handed in is not kept.
func TestNotKept(t *testing.T) {
	for _, one := range people() {
		key, k := loose("key")
		name, n := loose(one.Name)
		u := own(one)
		u.Name = name
		text, _ := token.Issue(key, u, 120)
		before := strings.Clone(text)
		if string(k) != "key" || string(n) != one.Name {
			t.Errorf("what was handed in has become %q, %q", k, n)
		}
		clear(n)
		clear(u.Groups)
		if text != before {
			t.Errorf("%q has become %q", before, text)
		}
		given, b := loose(text)
		told, e := token.Check(key, given, 120)
		if string(b) != before || string(k) != "key" {
			t.Errorf("what was handed in has become %q, %q", k, b)
		}
		clear(b)
		clear(k)
		if !same(told, one) || e != api.OK {
			t.Errorf("told of %q has become %v, %d", before, told, e)
		}
	}
}

// P2: nothing is kept from call to call, nor between calls at the same time.
func TestAnew(t *testing.T) {
	var all sync.WaitGroup
	for range 4 {
		all.Go(func() {
			for _, u := range slices.Concat(people(), people()) {
				text := signed("key", said(u, 9))
				issues(t, "key", u, 9, text, api.OK)
				fails(t, "key", text, 10, api.ErrLate)
				tells(t, "key", text, 9, u)
				fails(t, "other", text, 9, api.ErrSum)
				checks(t, user("ann", "a", "a"), api.ErrTwice)
				tells(t, "key", text, 0, u)
				fails(t, "key", text[1:], 9, api.ErrSum)
				checks(t, u, api.OK)
			}
		})
	}
	all.Wait()
}
