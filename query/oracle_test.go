package query_test

import (
	"math/rand"
	"slices"
	"testing"

	"seneschal/api"
	"seneschal/query"
)

// The world of these tests: two keys, each of which is not there or has one of a few values; parts name only the first five of
// these, so that a selector of a few parts speaks of labels in this world as it does of all labels.
var (
	worldKeys = []string{"a", "b"}
	worldVals = []string{"", "0", "1", "x", "y", "2", "3", "4", "5"}
)

const named = 5

// world is all labels that there are in it.
func world() [][]api.Label {
	all := [][]api.Label{nil}
	for _, key := range worldKeys {
		for _, l := range all[:len(all):len(all)] {
			for _, val := range worldVals {
				all = append(all, append(slices.Clone(l), api.Label{Key: key, Val: val}))
			}
		}
	}
	return all
}

func randomPart(from *rand.Rand) api.Req {
	r := api.Req{Key: worldKeys[from.Intn(2)], Kind: 1 + from.Intn(4)}
	if r.Kind == api.IsIn || r.Kind == api.IsNotIn {
		for range 1 + from.Intn(4) {
			r.Vals = append(r.Vals, worldVals[from.Intn(named)])
		}
	}
	return r
}

func randomSelector(from *rand.Rand) []api.Req {
	var l []api.Req
	for range from.Intn(5) {
		l = append(l, randomPart(from))
	}
	return l
}

// oracleMatch follows P21 word by word.
func oracleMatch(l []api.Req, has []api.Label) bool {
	for _, r := range l {
		isThere, among := false, false
		for _, label := range has {
			if label.Key == r.Key {
				isThere, among = true, slices.Contains(r.Vals, label.Val)
			}
		}
		is := []bool{false, isThere && among, !isThere || !among, isThere, !isThere}[r.Kind]
		if !is {
			return false
		}
	}
	return true
}

// oracleSolve takes of all labels of the world that match those that P24 names, by what is ahead of what.
func oracleSolve(l []api.Req, all [][]api.Label) ([]api.Label, bool) {
	var best []api.Label
	found := false
	for _, has := range all {
		if oracleMatch(l, has) && onlyNeeded(l, has) && (!found || ahead(l, has, best)) {
			best, found = has, true
		}
	}
	return best, found
}

// onlyNeeded tells whether labels have exactly the keys that a part names that is neither IsNotIn nor IsNot.
func onlyNeeded(l []api.Req, has []api.Label) bool {
	var needed []string
	for _, key := range worldKeys {
		if slices.ContainsFunc(l, func(r api.Req) bool { return r.Key == key && (r.Kind == api.IsIn || r.Kind == api.IsThere) }) {
			needed = append(needed, key)
		}
	}
	return slices.EqualFunc(needed, has, func(key string, label api.Label) bool { return key == label.Key })
}

// ahead tells whether each value of a, which has the keys of b, stands no later than that of b.
func ahead(l []api.Req, a, b []api.Label) bool {
	for i := range a {
		if slices.ContainsFunc(l, func(r api.Req) bool { return r.Key == a[i].Key && r.Kind == api.IsIn }) {
			if a[i].Val > b[i].Val {
				return false
			}
			continue
		}
		order := []string{"", "0", "1", "2", "3", "4", "5", "x", "y"}
		if slices.Index(order, a[i].Val) > slices.Index(order, b[i].Val) {
			return false
		}
	}
	return true
}

// P21, P24: many selectors, against all labels of a small world.
func TestWorld(t *testing.T) {
	all := world()
	from := rand.New(rand.NewSource(8))
	yes, no := 0, 0
	for range 4000 {
		a, b := randomSelector(from), randomSelector(from)
		for _, has := range all {
			if is, e := query.Match(a, has); is != oracleMatch(a, has) || e != api.OK {
				t.Fatalf("Match(%s, %q) = %v, %d", show(a), has, is, e)
			}
		}
		want, is := oracleSolve(a, all)
		if l, ok, e := query.Solve(a); !slices.Equal(l, want) || ok != is || e != api.OK {
			t.Fatalf("Solve(%s) = %q, %v, %d, want %q, %v", show(a), l, ok, e, want, is)
		}
		if holdImplies(t, a, b, all) {
			yes++
		} else {
			no++
		}
	}
	if yes < 500 || no < 500 {
		t.Errorf("%d selectors imply another one, %d don't", yes, no)
	}
}

// holdImplies holds Implies against what all labels of the world say, and answers it.
func holdImplies(t *testing.T, a, b []api.Req, all [][]api.Label) bool {
	t.Helper()
	both := func(has []api.Label) bool { return oracleMatch(a, has) && !oracleMatch(b, has) }
	want := !slices.ContainsFunc(all, both)
	is, l, e := query.Implies(a, b)
	if is != want || e != api.OK || is && len(l) != 0 || !is && !both(l) {
		t.Fatalf("Implies(%s, %s) = %v, %q, %d, want %v", show(a), show(b), is, l, e, want)
	}
	if is {
		return true
	}
	for _, r := range b {
		r.Kind = []int{0, api.IsNotIn, api.IsIn, api.IsNot, api.IsThere}[r.Kind]
		best, found := oracleSolve(append(slices.Clone(a), r), all)
		if !found {
			continue
		}
		if !slices.Equal(l, best) {
			t.Fatalf("Implies(%s, %s) answers %q, want %q", show(a), show(b), l, best)
		}
		break
	}
	return false
}
