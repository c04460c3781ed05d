package query_test

import (
	"fmt"
	"slices"
	"strings"
	"testing"

	"seneschal/api"
	"seneschal/query"
)

func in(key string, vals ...string) api.Req {
	return api.Req{Key: key, Kind: api.IsIn, Vals: vals}
}

func notIn(key string, vals ...string) api.Req {
	return api.Req{Key: key, Kind: api.IsNotIn, Vals: vals}
}

func there(key string) api.Req { return api.Req{Key: key, Kind: api.IsThere} }

func not(key string) api.Req { return api.Req{Key: key, Kind: api.IsNot} }

func sel(l ...api.Req) []api.Req { return l }

// labels makes labels of keys and values by turns.
func labels(l ...string) []api.Label {
	var out []api.Label
	for i := 0; i < len(l); i += 2 {
		out = append(out, api.Label{Key: l[i], Val: l[i+1]})
	}
	return out
}

func of(n int) string { return strings.Repeat("a", n) }

// many is n texts that are values, with keys' form too, rising.
func many(n int) []string {
	var out []string
	for i := range n {
		out = append(out, "v"+string(rune('a'+i)))
	}
	return out
}

func manyLabels(n int) []api.Label {
	var out []api.Label
	for _, s := range many(n) {
		out = append(out, api.Label{Key: s})
	}
	return out
}

func manyParts(n int) []api.Req {
	var out []api.Req
	for _, s := range many(n) {
		out = append(out, there(s))
	}
	return out
}

// P21: with P3 and P4, by which keys and values are looked at.
func TestCheck(t *testing.T) {
	for _, r := range []struct {
		l    []api.Req
		want api.Errno
	}{
		{nil, api.OK}, {[]api.Req{}, api.OK},
		{sel(in("a", "x")), api.OK}, {sel(notIn("a", "x")), api.OK}, {sel(there("a")), api.OK}, {sel(not("a")), api.OK},
		{sel(in("a.b/X_1", "", "v1.2-rc_3")), api.OK}, {sel(notIn("a", "", "")), api.OK},
		{sel(api.Req{Key: "a", Kind: api.IsThere, Vals: []string{}}), api.OK}, {sel(api.Req{Key: "a", Kind: api.IsNot, Vals: []string{}}), api.OK},
		// One key in several parts, one value several times, parts in any order.
		{sel(there("b"), not("b"), in("a", "y", "x", "x"), in("a", "z")), api.OK},
		{manyParts(8), api.OK}, {manyParts(9), api.ErrLarge}, {manyParts(26), api.ErrLarge}, {make([]api.Req, 8), api.ErrName}, {make([]api.Req, 9), api.ErrLarge}, {make([]api.Req, 1<<16), api.ErrLarge},
		// The key, of each kind and at each place.
		{sel(in("", "x")), api.ErrName}, {sel(notIn("-", "x")), api.ErrName}, {sel(there("a/b/c")), api.ErrName}, {sel(not("A/c")), api.ErrName}, {sel(there("\u00e4")), api.ErrName}, {sel(there("a b")), api.ErrName},
		{sel(in(of(65), "x")), api.ErrLarge}, {sel(notIn(of(65), "x")), api.ErrLarge}, {sel(there(of(65))), api.ErrLarge}, {sel(not(of(65))), api.ErrLarge},
		{sel(there(of(63))), api.OK}, {sel(there(of(64))), api.ErrName}, {sel(there("a/" + of(62))), api.OK},
		{sel(there("a"), there("a"), there("")), api.ErrName}, {append(manyParts(7), not(of(65))), api.ErrLarge},
		// The Kind.
		{sel(api.Req{Key: "a"}), api.ErrArg}, {sel(api.Req{Key: "a", Kind: 5}), api.ErrArg}, {sel(api.Req{Key: "a", Kind: -1}), api.ErrArg}, {sel(api.Req{Key: "a", Kind: 1 << 62}), api.ErrArg},
		{sel(api.Req{Key: "a", Kind: 0, Vals: []string{"x"}}), api.ErrArg}, {sel(api.Req{Key: "a", Kind: 5, Vals: []string{"x"}}), api.ErrArg},
		{sel(there("a"), api.Req{Key: "a", Kind: 5}), api.ErrArg},
		// Whether there are Vals.
		{sel(in("a")), api.ErrArg}, {sel(notIn("a")), api.ErrArg}, {sel(api.Req{Key: "a", Kind: api.IsIn, Vals: []string{}}), api.ErrArg},
		{sel(api.Req{Key: "a", Kind: api.IsThere, Vals: []string{""}}), api.ErrArg}, {sel(api.Req{Key: "a", Kind: api.IsNot, Vals: []string{"x"}}), api.ErrArg},
		{sel(there("a"), in("b")), api.ErrArg},
		// How many Vals.
		{sel(in("a", many(8)...)), api.OK}, {sel(in("a", many(9)...)), api.ErrLarge}, {sel(notIn("a", many(8)...)), api.OK}, {sel(notIn("a", many(9)...)), api.ErrLarge}, {sel(in("a", make([]string, 1<<16)...)), api.ErrLarge},
		// Each of Vals.
		{sel(in("a", "-")), api.ErrName}, {sel(notIn("a", "b/c")), api.ErrName}, {sel(in("a", "x", "x", "x_")), api.ErrName}, {sel(notIn("a", append(many(7), "\xff")...)), api.ErrName},
		{sel(in("a", of(63))), api.OK}, {sel(in("a", of(64))), api.ErrLarge}, {sel(notIn("a", append(many(7), of(64))...)), api.ErrLarge},
		// Several apply.
		{append(make([]api.Req, 8), in("a")), api.ErrLarge},
		{sel(api.Req{Key: of(65), Kind: 9, Vals: []string{"-"}}), api.ErrLarge}, {sel(api.Req{Key: "-", Kind: 9, Vals: many(9)}), api.ErrName},
		{sel(in("-")), api.ErrName}, {sel(in("-", many(9)...)), api.ErrName}, {sel(in("-", of(64))), api.ErrName}, {sel(in(of(65), "-")), api.ErrLarge},
		{sel(api.Req{Key: "a", Kind: 9, Vals: many(9)}), api.ErrArg}, {sel(api.Req{Key: "a", Kind: 9, Vals: []string{"-"}}), api.ErrArg},
		{sel(api.Req{Key: "a", Kind: api.IsThere, Vals: many(9)}), api.ErrArg}, {sel(api.Req{Key: "a", Kind: api.IsNot, Vals: []string{"-"}}), api.ErrArg},
		{sel(in("a", append([]string{"-"}, many(8)...)...)), api.ErrLarge}, {sel(in("a", "-", of(64))), api.ErrName}, {sel(in("a", of(64), "-")), api.ErrLarge},
		// One by one: what is wrong with a part comes ahead of what is wrong with the next one.
		{sel(in("a", "-"), there(of(65))), api.ErrName}, {sel(in("a", many(9)...), there("-")), api.ErrLarge}, {sel(in("a"), there("-")), api.ErrArg}, {sel(there("-"), in("a")), api.ErrName}, {sel(notIn("a", of(64)), in("a")), api.ErrLarge},
	} {
		if e := query.Check(r.l); e != r.want {
			t.Errorf("Check(%s) = %d, want %d", show(r.l), e, r.want)
		}
	}
}

// P21
func TestCheckLabels(t *testing.T) {
	for _, r := range []struct {
		l    []api.Label
		want api.Errno
	}{
		{nil, api.OK}, {[]api.Label{}, api.OK},
		{labels("a", ""), api.OK}, {labels("a", "x"), api.OK}, {labels("a.b/X_1", "v1.2-rc_3"), api.OK}, {labels("a", "x", "b", "x"), api.OK}, {labels("a", "z", "b", "y", "c", "x"), api.OK},
		// Byte by byte.
		{labels("B", "", "a", ""), api.OK}, {labels("a", "", "B", ""), api.ErrArg}, {labels("a", "", "a-b", "", "a.b", "", "a/b", "", "a0", "", "aA", "", "a_b", "", "aa", "", "b", ""), api.OK},
		{labels("10", "", "9", ""), api.OK}, {labels("9", "", "10", ""), api.ErrArg},
		{manyLabels(10), api.OK}, {manyLabels(11), api.ErrLarge}, {make([]api.Label, 10), api.ErrName}, {make([]api.Label, 11), api.ErrLarge}, {make([]api.Label, 1<<16), api.ErrLarge},
		// The key, at each place.
		{labels("", ""), api.ErrName}, {labels("-", ""), api.ErrName}, {labels("a/b/c", ""), api.ErrName}, {labels("\u00e4", ""), api.ErrName}, {labels("a", "", "b", "", "c_", ""), api.ErrName},
		{labels(of(63), ""), api.OK}, {labels(of(64), ""), api.ErrName}, {labels(of(65), ""), api.ErrLarge}, {labels("a", "", of(65), ""), api.ErrLarge},
		// The value, at each place.
		{labels("a", "-"), api.ErrName}, {labels("a", "b/c"), api.ErrName}, {labels("a", " "), api.ErrName}, {labels("a", "", "b", "", "c", "."), api.ErrName},
		{labels("a", of(63)), api.OK}, {labels("a", of(64)), api.ErrLarge}, {labels("a", "", "b", of(64)), api.ErrLarge},
		// Keys that do not rise, or are there twice.
		{labels("b", "", "a", ""), api.ErrArg}, {labels("a", "x", "a", "x"), api.ErrArg}, {labels("a", "x", "a", "y"), api.ErrArg}, {labels("a", "", "b", "", "b", ""), api.ErrArg}, {labels("a", "", "c", "", "b", ""), api.ErrArg}, {labels("a", "", "b", "", "a", ""), api.ErrArg},
		// Several apply.
		{append(labels("b", "-", "a", "", "", ""), manyLabels(8)...), api.ErrLarge},
		{labels("-", of(64)), api.ErrName}, {labels(of(65), "-"), api.ErrLarge},
		{labels("b", "", "-", ""), api.ErrName}, {labels("b", "", of(65), ""), api.ErrLarge}, {labels("b", "", "a", "-"), api.ErrName}, {labels("b", "", "b", of(64)), api.ErrLarge},
		{labels("b", "", "a", "", "-", ""), api.ErrArg}, {labels("b", "", "a", "", "c", of(64)), api.ErrArg}, {labels("b", "-", "a", ""), api.ErrName}, {labels("b", of(64), "b", "-"), api.ErrLarge},
	} {
		if e := query.CheckLabels(r.l); e != r.want {
			t.Errorf("CheckLabels(%.200q) = %d, want %d", r.l, e, r.want)
		}
	}
}

// P21
func TestMatch(t *testing.T) {
	none, app, both := labels(), labels("app", "web"), labels("app", "web", "tier", "")
	for _, r := range []struct {
		l      []api.Req
		labels []api.Label
		want   bool
	}{
		{nil, nil, true}, {[]api.Req{}, []api.Label{}, true}, {nil, both, true},
		{sel(in("app", "web")), none, false}, {sel(in("app", "web")), app, true}, {sel(in("app", "db")), app, false}, {sel(in("app", "we")), app, false}, {sel(in("app", "web1")), app, false}, {sel(in("app", "WEB")), app, false},
		{sel(in("app", "db", "web")), app, true}, {sel(in("app", "web", "db")), both, true}, {sel(in("app", "db", "x")), app, false}, {sel(in("app", "db", "x")), none, false}, {sel(in("web", "app")), app, false},
		{sel(in("tier", "")), both, true}, {sel(in("tier", "")), app, false}, {sel(in("app", "")), app, false},
		{sel(notIn("app", "web")), none, true}, {sel(notIn("app", "web")), app, false}, {sel(notIn("app", "db")), app, true}, {sel(notIn("app", "db", "web")), app, false}, {sel(notIn("app", "db", "x")), app, true}, {sel(notIn("app", "db", "x")), none, true},
		{sel(notIn("tier", "")), both, false}, {sel(notIn("tier", "")), app, true}, {sel(notIn("app", "")), app, true},
		{sel(there("app")), none, false}, {sel(there("app")), app, true}, {sel(there("tier")), both, true}, {sel(there("tier")), app, false}, {sel(there("ap")), app, false}, {sel(there("App")), app, false},
		{sel(not("app")), none, true}, {sel(not("app")), app, false}, {sel(not("tier")), both, false}, {sel(not("tier")), app, true},
		// All parts must hold.
		{sel(in("app", "web"), there("tier")), both, true}, {sel(in("app", "web"), there("tier")), app, false}, {sel(there("tier"), in("app", "web")), app, false}, {sel(in("app", "web", "db"), in("app", "web", "x")), app, true}, {sel(in("app", "web", "db"), in("app", "db")), app, false},
		{sel(there("app"), not("app")), app, false}, {sel(there("app"), not("app")), none, false}, {sel(notIn("app", "x"), not("old"), in("tier", "", "y"), there("app")), both, true}, {sel(notIn("app", "x"), not("old"), in("tier", "z", "y"), there("app")), both, false},
	} {
		if is, e := query.Match(r.l, r.labels); is != r.want || e != api.OK {
			t.Errorf("Match(%s, %q) = %v, %d, want %v", show(r.l), r.labels, is, e, r.want)
		}
	}
}

// P21: the selector's errors, then those of the labels; no answer beside them.
func TestMatchWrong(t *testing.T) {
	for _, r := range []struct {
		l      []api.Req
		labels []api.Label
		want   api.Errno
	}{
		{manyParts(9), nil, api.ErrLarge}, {sel(there("-")), nil, api.ErrName}, {sel(in("a")), labels("a", ""), api.ErrArg}, {sel(in("a", "x", "-")), labels("a", "x"), api.ErrName}, {sel(not("a"), in("b", many(9)...)), nil, api.ErrLarge},
		{nil, manyLabels(11), api.ErrLarge}, {nil, labels("-", ""), api.ErrName}, {nil, labels("a", of(64)), api.ErrLarge}, {sel(there("a")), labels("b", "", "a", ""), api.ErrArg}, {sel(not("a")), labels("b", "", "b", ""), api.ErrArg},
		// Also where the labels would not match, or did so ahead of what is wrong.
		{sel(there("z"), in("a")), nil, api.ErrArg}, {sel(not("z")), labels("b", "", "a", ""), api.ErrArg},
		{sel(there("-")), labels("b", "", "a", ""), api.ErrName}, {sel(in("a")), labels("-", ""), api.ErrArg}, {manyParts(9), labels("-", ""), api.ErrLarge}, {sel(there("-")), manyLabels(11), api.ErrName},
	} {
		if is, e := query.Match(r.l, r.labels); is || e != r.want {
			t.Errorf("Match(%s, %q) = %v, %d, want %d", show(r.l), r.labels, is, e, r.want)
		}
	}
}

// P21 to P24: each call tells what Check says of a selector, and nothing beside it.
func TestWrongSelectors(t *testing.T) {
	for _, r := range []struct {
		l    []api.Req
		want api.Errno
	}{
		{manyParts(9), api.ErrLarge}, {sel(there("")), api.ErrName}, {sel(there(of(65))), api.ErrLarge}, {sel(api.Req{Key: "a"}), api.ErrArg}, {sel(in("a")), api.ErrArg},
		{sel(api.Req{Key: "a", Kind: api.IsNot, Vals: []string{"x"}}), api.ErrArg}, {sel(notIn("a", many(9)...)), api.ErrLarge}, {sel(in("a", "x", "-")), api.ErrName}, {sel(in("a", "x", of(64))), api.ErrLarge},
		{sel(there("a"), not("a"), in("b", "-")), api.ErrName},
	} {
		if e := query.Check(r.l); e != r.want {
			t.Errorf("Check(%s) = %d, want %d", show(r.l), e, r.want)
		}
		if s, e := query.Print(r.l); s != "" || e != r.want {
			t.Errorf("Print(%s) = %q, %d, want %d", show(r.l), s, e, r.want)
		}
		if l, is, e := query.Solve(r.l); len(l) != 0 || is || e != r.want {
			t.Errorf("Solve(%s) = %q, %v, %d, want %d", show(r.l), l, is, e, r.want)
		}
		for _, good := range [][]api.Req{nil, sel(there("a")), sel(there("a"), not("a"))} {
			if is, l, e := query.Implies(r.l, good); is || len(l) != 0 || e != r.want {
				t.Errorf("Implies(%s, %s) = %v, %q, %d, want %d", show(r.l), show(good), is, l, e, r.want)
			}
			if is, l, e := query.Implies(good, r.l); is || len(l) != 0 || e != r.want {
				t.Errorf("Implies(%s, %s) = %v, %q, %d, want %d", show(good), show(r.l), is, l, e, r.want)
			}
		}
	}
}

func show(l []api.Req) string {
	return fmt.Sprintf("%.300s", fmt.Sprintf("%+v", l))
}

func same(a, b []api.Req) bool {
	return slices.EqualFunc(a, b, func(r, s api.Req) bool {
		return r.Key == s.Key && r.Kind == s.Kind && slices.Equal(r.Vals, s.Vals)
	})
}
