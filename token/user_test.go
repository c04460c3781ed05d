package token_test

import (
	"slices"
	"strconv"
	"strings"
	"testing"

	"seneschal/api"
	"seneschal/token"
)

// mistake is a name of a user or a group that may not be, and what is told of it.
type mistake struct {
	s string
	e api.Errno
}

func user(name string, groups ...string) api.User {
	return api.User{Name: name, Groups: groups}
}

// groups is n of them: g1, g2 and so on.
func groups(n int) []string {
	var l []string
	for i := range n {
		l = append(l, "g"+strconv.Itoa(i+1))
	}
	return l
}

// long is a name of n bytes.
func long(n int) string {
	return strings.Repeat("a", n-1) + "9"
}

// mistakes are of all kinds, those at the limits among them.
func mistakes() []mistake {
	return []mistake{
		{"", api.ErrName},
		{"-", api.ErrName},
		{"-a", api.ErrName},
		{"a-", api.ErrName},
		{"A", api.ErrName},
		{"aBc", api.ErrName},
		{"a.b", api.ErrName},
		{".", api.ErrName},
		{"a,b", api.ErrName},
		{",", api.ErrName},
		{"a b", api.ErrName},
		{" a", api.ErrName},
		{"a_b", api.ErrName},
		{"a/b", api.ErrName},
		{"a\x00", api.ErrName},
		{"\xff", api.ErrName},
		{"é", api.ErrName},
		{long(21), api.ErrLarge},
		{long(22), api.ErrLarge},
		{long(63), api.ErrLarge},
		// What name.Check says is told ahead of the 20 bytes.
		{strings.Repeat("a", 20) + "-", api.ErrName},
		{strings.Repeat("A", 21), api.ErrName},
		{strings.Repeat("-", 63), api.ErrName},
		{long(64), api.ErrLarge},
		{strings.Repeat("-", 64), api.ErrLarge},
		{strings.Repeat(".", 1000), api.ErrLarge},
	}
}

// checks holds what CheckUser says, and what Issue says of the same user, which is the same.
func checks(t *testing.T, u api.User, e api.Errno) {
	t.Helper()
	if f := token.CheckUser(u); f != e {
		t.Errorf("CheckUser(%.300q) = %d, want %d", u, f, e)
	}
	if s, f := token.Issue("k", u, 0); f != e || (s == "") != (e != api.OK) {
		t.Errorf("Issue of %.300q = %q, %d, want %d", u, s, f, e)
	}
}

// P30: users as they must be, with as many groups as there may be, and names as long as they may be.
func TestUsers(t *testing.T) {
	for n := range 7 {
		checks(t, user("ann", groups(n)...), api.OK)
	}
	checks(t, api.User{Name: "a", Groups: []string{}}, api.OK)
	for _, s := range []string{"a", "0", "9", "z", "a-b", "a--b", "0-0", "a0", long(2), long(19), long(20), strings.Repeat("z", 20), "a" + strings.Repeat("-", 18) + "b"} {
		checks(t, user(s), api.OK)
		checks(t, user("ann", s), api.OK)
		checks(t, user(s, s), api.OK)
		checks(t, user("ann", append(groups(5), s)...), api.OK)
	}
	// Groups stand as they are: they need not rise.
	checks(t, user("m", "z", "a", "m", "0", "ab", "a-b"), api.OK)
	checks(t, user("ann", "g1", "g11", "g", "1g", "g-1", "1"), api.OK)
}

// P30: what is wrong with the name, ahead of all groups.
func TestUserName(t *testing.T) {
	for _, w := range mistakes() {
		checks(t, user(w.s), w.e)
		checks(t, user(w.s, "dev", "ops"), w.e)
		checks(t, user(w.s, groups(7)...), w.e)
		checks(t, user(w.s, "a", "a"), w.e)
		for _, v := range mistakes() {
			checks(t, user(w.s, v.s), w.e)
		}
	}
	checks(t, api.User{}, api.ErrName)
}

// P30: too many groups, behind the name and ahead of what is wrong with any of them.
func TestManyGroups(t *testing.T) {
	for _, n := range []int{7, 8, 20, 1000} {
		checks(t, user("ann", groups(n)...), api.ErrLarge)
		checks(t, user("ann", make([]string, n)...), api.ErrLarge)
		checks(t, user("-", groups(n)...), api.ErrName)
		checks(t, user("ann", slices.Repeat([]string{"a"}, n)...), api.ErrLarge)
		checks(t, user("ann", append([]string{"-"}, groups(n-1)...)...), api.ErrLarge)
	}
	checks(t, user("ann", make([]string, 6)...), api.ErrName)
}

// P30: what is wrong with a group, at each place, ahead of what is wrong with those behind it.
func TestGroups(t *testing.T) {
	for n := 1; n <= 6; n++ {
		for i := range n {
			for _, w := range mistakes() {
				l := groups(n)
				l[i] = w.s
				checks(t, user("ann", l...), w.e)
				for _, v := range mistakes() {
					for j := i + 1; j < n; j++ {
						l[j] = v.s
					}
					checks(t, user("ann", l...), w.e)
				}
				// What is twice behind it is told behind it.
				for j := i + 1; j < n; j++ {
					l[j] = "twice"
				}
				checks(t, user("ann", l...), w.e)
			}
		}
	}
}

// P30: a group that is one of those ahead of it, next to it or not.
func TestGroupTwice(t *testing.T) {
	for n := 2; n <= 6; n++ {
		for i := range n {
			for j := i + 1; j < n; j++ {
				l := groups(n)
				l[j] = l[i]
				checks(t, user("ann", l...), api.ErrTwice)
				for _, w := range mistakes() {
					// A mistake behind it is told behind it, one ahead of it ahead of it.
					for at := range n {
						if at != i && at != j {
							m := slices.Clone(l)
							m[at] = w.s
							want := w.e
							if at > j {
								want = api.ErrTwice
							}
							checks(t, user("ann", m...), want)
						}
					}
				}
			}
		}
	}
	// A group that is the same as another one, and no name, is no name.
	checks(t, user("ann", "", ""), api.ErrName)
	checks(t, user("ann", long(21), long(21)), api.ErrLarge)
	checks(t, user("ann", long(20), long(20)), api.ErrTwice)
	checks(t, user("ann", "a", "b", "ann"), api.OK)
	checks(t, user("ann", "a", "ann", "a"), api.ErrTwice)
	// Who has only the beginning of it is another one.
	checks(t, user("ann", long(20), long(20)[:19]), api.OK)
}
