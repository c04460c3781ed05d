package query

import (
	"slices"
	"strconv"
	"strings"

	"seneschal/api"
)

// solve answers the labels of P24 that match l, if there are some. No part speaks of two keys, so each key is solved by itself.
func solve(l []api.Req) ([]api.Label, bool) {
	var labels []api.Label
	for _, key := range keysOf(l) {
		about := partsFor(l, key)
		// Exactly keys of which only IsNotIn and IsNot speak may lack.
		if allHold(about, state{}) {
			continue
		}
		val, ok := firstOf(choices(about), about)
		if !ok {
			return nil, false
		}
		// Copies, since both may be texts that were handed in.
		labels = append(labels, api.Label{Key: strings.Clone(key), Val: strings.Clone(val)})
	}
	return labels, true
}

// keysOf answers the keys of which l speaks, rising, each once.
func keysOf(l []api.Req) []string {
	var keys []string
	for _, r := range l {
		keys = append(keys, r.Key)
	}
	slices.Sort(keys)
	return slices.Compact(keys)
}

// partsFor answers the parts of l that speak of a key.
func partsFor(l []api.Req, key string) []api.Req {
	var about []api.Req
	for _, r := range l {
		if r.Key == key {
			about = append(about, r)
		}
	}
	return about
}

// choices answers the values of which a key's one is taken, the best first: those of its first IsIn, or made ones.
func choices(about []api.Req) []string {
	barred := 0
	for _, r := range about {
		if r.Kind == api.IsIn {
			return slices.Sorted(slices.Values(r.Vals))
		}
		barred += len(r.Vals)
	}
	return madeVals(barred)
}

// madeVals answers the empty text, `0`, `1` and so on: one more than are barred, so that one of them is let be by each IsNotIn.
func madeVals(barred int) []string {
	vals := []string{""}
	for i := range barred {
		vals = append(vals, strconv.Itoa(i))
	}
	return vals
}

// firstOf answers the first of vals with which all parts for a key hold.
func firstOf(vals []string, about []api.Req) (string, bool) {
	for _, val := range vals {
		if allHold(about, state{there: true, val: val}) {
			return val, true
		}
	}
	return "", false
}
