package query

import (
	"slices"

	"seneschal/api"
	"seneschal/name"
)

// checkPart says what is wrong with one part of a selector.
func checkPart(r api.Req) api.Errno {
	if e := name.CheckKey(r.Key); e != api.OK {
		return e
	}
	if !fitsKind(r) {
		return api.ErrArg
	}
	if len(r.Vals) > api.MaxVals {
		return api.ErrLarge
	}
	for _, val := range r.Vals {
		if e := name.CheckVal(val); e != api.OK {
			return e
		}
	}
	return api.OK
}

// fitsKind tells whether r is of a kind that there is, and has Vals if and only if that kind asks for them.
func fitsKind(r api.Req) bool {
	switch r.Kind {
	case api.IsIn, api.IsNotIn:
		return len(r.Vals) > 0
	case api.IsThere, api.IsNot:
		return len(r.Vals) == 0
	}
	return false
}

// checkLabel says what is wrong with one label, whatever stands ahead of it.
func checkLabel(label api.Label) api.Errno {
	if e := name.CheckKey(label.Key); e != api.OK {
		return e
	}
	return name.CheckVal(label.Val)
}

// state is what labels have of one key: whether it is there, and with which value.
type state struct {
	there bool
	val   string
}

// holds tells whether r is content with what labels have of its key.
func holds(r api.Req, of state) bool {
	switch r.Kind {
	case api.IsIn:
		return of.there && slices.Contains(r.Vals, of.val)
	case api.IsNotIn:
		return !of.there || !slices.Contains(r.Vals, of.val)
	case api.IsThere:
		return of.there
	}
	return !of.there
}

// allHold tells the same of several parts for one key.
func allHold(l []api.Req, of state) bool {
	return !slices.ContainsFunc(l, func(r api.Req) bool { return !holds(r, of) })
}

// opposite answers the part that holds where r doesn't.
func opposite(r api.Req) api.Req {
	switch r.Kind {
	case api.IsIn:
		r.Kind = api.IsNotIn
	case api.IsNotIn:
		r.Kind = api.IsIn
	case api.IsThere:
		r.Kind = api.IsNot
	case api.IsNot:
		r.Kind = api.IsThere
	}
	return r
}

// matches tells whether the labels are as all parts of l ask.
func matches(l []api.Req, labels []api.Label) bool {
	return !slices.ContainsFunc(l, func(r api.Req) bool { return !holds(r, stateOf(labels, r.Key)) })
}

// stateOf answers what the labels have of a key.
func stateOf(labels []api.Label, key string) state {
	for _, label := range labels {
		if label.Key == key {
			return state{there: true, val: label.Val}
		}
	}
	return state{}
}
