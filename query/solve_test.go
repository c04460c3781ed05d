package query_test

import (
	"slices"
	"strconv"
	"testing"

	"seneschal/api"
	"seneschal/query"
)

func solves(t *testing.T, l []api.Req, is bool, want ...string) {
	t.Helper()
	has, ok, e := query.Solve(l)
	if !slices.Equal(has, labels(want...)) || ok != is || e != api.OK {
		t.Errorf("Solve(%s) = %q, %v, %d, want %q, %v", show(l), has, ok, e, labels(want...), is)
	}
}

func numbers(n int) []string {
	var out []string
	for i := range n {
		out = append(out, strconv.Itoa(i))
	}
	return out
}

// P24
func TestSolve(t *testing.T) {
	solves(t, nil, true)
	solves(t, []api.Req{}, true)
	// Keys of which only IsNotIn and IsNot speak.
	solves(t, sel(not("a")), true)
	solves(t, sel(notIn("a", "x")), true)
	solves(t, sel(notIn("a", "", "x"), not("a"), not("b"), notIn("a", "y")), true)
	solves(t, sel(not("a"), there("b"), notIn("c", "")), true, "b", "")
	// Keys with an IsIn.
	solves(t, sel(in("a", "x")), true, "a", "x")
	solves(t, sel(in("a", "")), true, "a", "")
	solves(t, sel(in("a", "y", "x", "z")), true, "a", "x")
	solves(t, sel(in("a", "x", "")), true, "a", "")
	solves(t, sel(in("a", "x", "x")), true, "a", "x")
	solves(t, sel(in("a", "a", "B", "9", "10", "Z.z")), true, "a", "10")
	solves(t, sel(in("a", "a", "B")), true, "a", "B")
	solves(t, sel(in("a", "ab", "a", "a.b")), true, "a", "a")
	solves(t, sel(in("a", "y", "x", "z"), in("a", "z", "y")), true, "a", "y")
	solves(t, sel(in("a", "y", "z"), in("a", "a", "z", "y"), in("a", "z", "b")), true, "a", "z")
	solves(t, sel(in("a", "y", "x", "z"), notIn("a", "x")), true, "a", "y")
	solves(t, sel(notIn("a", "x", "y"), in("a", "y", "x", "z"), there("a")), true, "a", "z")
	solves(t, sel(there("a"), notIn("a", ""), in("a", "", "0", "q")), true, "a", "0")
	solves(t, sel(in("a", "q"), there("a"), notIn("a", "", "0")), true, "a", "q")
	// Keys without one.
	solves(t, sel(there("a")), true, "a", "")
	solves(t, sel(there("a"), there("a")), true, "a", "")
	solves(t, sel(there("a"), notIn("a", "x", "0")), true, "a", "")
	solves(t, sel(notIn("a", ""), there("a")), true, "a", "0")
	solves(t, sel(there("a"), notIn("a", "0", "")), true, "a", "1")
	solves(t, sel(there("a"), notIn("a", ""), notIn("a", "1"), notIn("a", "0", "3")), true, "a", "2")
	solves(t, sel(there("a"), notIn("a", "", "00", "1")), true, "a", "0")
	solves(t, sel(there("a"), notIn("a", "", "", "")), true, "a", "0")
	solves(t, sel(there("a"), notIn("a", append([]string{""}, numbers(7)...)...)), true, "a", "7")
	solves(t, sel(there("a"), notIn("a", "", "8", "9", "10", "11"), notIn("a", numbers(8)...)), true, "a", "12")
	// All that can be barred.
	barred := append([]string{""}, numbers(55)...)
	all := sel(there("a"))
	for part := range slices.Chunk(barred, 8) {
		all = append(all, notIn("a", part...))
	}
	solves(t, all, true, "a", "55")
	// Several keys, rising, whatever the order of the parts.
	solves(t, sel(there("b"), in("a", "x"), not("d"), in("B", "y", "w"), there("a.b/c"), notIn("b", ""), notIn("c", "")), true, "B", "w", "a", "x", "a.b/c", "", "b", "0")
	solves(t, manyParts(8), true, "va", "", "vb", "", "vc", "", "vd", "", "ve", "", "vf", "", "vg", "", "vh", "")
	solves(t, sel(there("a-b"), there("a"), there("a/b"), there("a.b"), there("aB"), there("a_b"), there("a0"), there("ab")), true, "a", "", "a-b", "", "a.b", "", "a/b", "", "a0", "", "aB", "", "a_b", "", "ab", "")
}

// P24: selectors that nothing matches.
func TestSolveNone(t *testing.T) {
	for _, l := range [][]api.Req{
		sel(there("a"), not("a")), sel(not("a"), there("a")), sel(in("a", "x"), not("a")), sel(not("a"), in("a", "")), sel(not("a"), notIn("a", "x"), there("a")),
		sel(in("a", "x"), in("a", "y")), sel(in("a", "x", "y"), in("a", "z", "")), sel(in("a", "x", "y"), in("a", "y", "z"), in("a", "x", "z")),
		sel(in("a", "x"), notIn("a", "x")), sel(notIn("a", "x", "z"), in("a", "x", "x")), sel(in("a", "x", "y"), notIn("a", "y"), there("a"), notIn("a", "x")),
		sel(in("a", "x"), there("b"), not("c"), not("b")), sel(there("z"), in("b", "x"), in("a", "x"), in("b", "")),
	} {
		solves(t, l, false)
		// What nothing matches implies everything.
		for _, b := range [][]api.Req{nil, sel(there("q")), sel(not("a")), l} {
			implies(t, l, b)
		}
	}
}

func implies(t *testing.T, a, b []api.Req) {
	t.Helper()
	if is, l, e := query.Implies(a, b); !is || len(l) != 0 || e != api.OK {
		t.Errorf("Implies(%s, %s) = %v, %q, %d", show(a), show(b), is, l, e)
	}
}

func refutes(t *testing.T, a, b []api.Req, want ...string) {
	t.Helper()
	if is, l, e := query.Implies(a, b); is || !slices.Equal(l, labels(want...)) || e != api.OK {
		t.Errorf("Implies(%s, %s) = %v, %q, %d, want %q", show(a), show(b), is, l, e, labels(want...))
	}
}

// P24
func TestImplies(t *testing.T) {
	implies(t, nil, nil)
	implies(t, sel(there("a")), nil)
	implies(t, sel(in("app", "web", "db"), notIn("tier", "x")), sel(there("app")))
	implies(t, sel(in("a", "x")), sel(in("a", "y", "x")))
	implies(t, sel(in("a", "x", "y"), in("a", "y", "z")), sel(in("a", "y")))
	implies(t, sel(in("a", "x", "y"), notIn("a", "x")), sel(in("a", "y"), there("a"), notIn("a", "", "x"), notIn("a", "z")))
	implies(t, sel(in("a", "x")), sel(notIn("a", "y", "z")))
	implies(t, sel(not("a")), sel(notIn("a", "x"), not("a")))
	implies(t, sel(notIn("a", "x", "y")), sel(notIn("a", "y")))
	implies(t, sel(notIn("a", "x"), notIn("a", "y")), sel(notIn("a", "y", "x")))
	implies(t, sel(there("b"), not("a"), in("c", "")), sel(in("c", "", "x"), notIn("a", ""), there("b")))
	implies(t, manyParts(8), manyParts(8))

	refutes(t, nil, sel(there("a")))
	refutes(t, nil, sel(not("a")), "a", "")
	refutes(t, nil, sel(in("a", "x")))
	refutes(t, nil, sel(notIn("a", "y", "x")), "a", "x")
	refutes(t, sel(there("a")), sel(there("b")), "a", "")
	refutes(t, sel(there("b")), sel(not("a")), "a", "", "b", "")
	refutes(t, sel(there("a")), sel(in("a", "", "0")), "a", "1")
	refutes(t, sel(there("a")), sel(notIn("a", "y", "x")), "a", "x")
	refutes(t, sel(in("a", "y", "x")), sel(in("a", "x")), "a", "y")
	refutes(t, sel(in("a", "y", "x", "w")), sel(notIn("a", "y", "x")), "a", "x")
	refutes(t, sel(notIn("a", "x")), sel(there("a")))
	refutes(t, sel(notIn("a", "x")), sel(not("a")), "a", "")
	refutes(t, sel(notIn("a", "")), sel(not("a")), "a", "0")
	refutes(t, sel(notIn("a", "x")), sel(notIn("a", "x", "z", "y")), "a", "y")
	refutes(t, sel(notIn("a", "x"), there("c")), sel(in("a", "y")), "c", "")
	// The first part of b for which there are labels, whatever those behind it would have.
	refutes(t, sel(in("a", "x")), sel(there("a"), in("b", "y"), not("c")), "a", "x")
	refutes(t, sel(in("a", "x")), sel(there("a"), not("c"), in("b", "y")), "a", "x", "c", "")
	refutes(t, sel(in("a", "x")), sel(in("a", "x"), notIn("a", "y"), not("b"), not("c")), "a", "x", "b", "")
	refutes(t, sel(in("a", "x")), sel(there("a"), notIn("d", "7", "6"), not("c"), in("a", "y")), "a", "x", "d", "6")
	// Eight parts, and the opposite of one more.
	refutes(t, manyParts(8), sel(not("a")), "a", "", "va", "", "vb", "", "vc", "", "vd", "", "ve", "", "vf", "", "vg", "", "vh", "")
	refutes(t, manyParts(8), sel(in("va", "")), "va", "0", "vb", "", "vc", "", "vd", "", "ve", "", "vf", "", "vg", "", "vh", "")
}

// P24: the errors of a come ahead of those of b.
func TestImpliesWrong(t *testing.T) {
	for _, r := range []struct {
		a, b []api.Req
		want api.Errno
	}{
		{sel(there("-")), sel(in("a")), api.ErrName}, {sel(in("a")), sel(there("-")), api.ErrArg}, {manyParts(9), sel(in("a")), api.ErrLarge}, {sel(in("a")), manyParts(9), api.ErrArg},
		{manyParts(8), manyParts(9), api.ErrLarge}, {sel(there("a"), in("b", "-")), manyParts(9), api.ErrName}, {sel(there("a")), sel(there("b"), in("c")), api.ErrArg},
	} {
		if is, l, e := query.Implies(r.a, r.b); is || len(l) != 0 || e != r.want {
			t.Errorf("Implies(%s, %s) = %v, %q, %d, want %d", show(r.a), show(r.b), is, l, e, r.want)
		}
	}
}
