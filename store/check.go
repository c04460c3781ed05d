package store

import (
	"slices"

	"seneschal/api"
	"seneschal/json"
	"seneschal/name"
	"seneschal/query"
)

func checkPlace(kind, space string) api.Errno {
	if e := name.Check(kind); e != api.OK {
		return e
	}
	if space == "" {
		return api.OK
	}
	return name.Check(space)
}

// checkObject says what is wrong with o, and answers its canonical Doc: whoever lays o into a store needs it next.
func checkObject(o api.Object) (string, api.Errno) {
	if e := CheckKey(o.Key); e != api.OK {
		return "", e
	}
	if e := query.CheckLabels(o.Labels); e != api.OK {
		return "", e
	}
	if len(o.Owners) > api.MaxOwners || len(o.Holds) > api.MaxHolds {
		return "", api.ErrLarge
	}
	for _, l := range [][]string{o.Owners, o.Holds} {
		for _, s := range l {
			if e := name.Check(s); e != api.OK {
				return "", e
			}
		}
	}
	for i, s := range o.Holds {
		if slices.Contains(o.Holds[:i], s) {
			return "", api.ErrTwice
		}
	}
	return json.Canon(o.Doc)
}
