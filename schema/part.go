package schema

import (
	"slices"

	"seneschal/api"
	"seneschal/json"
)

// part is a part of a schema whose documents have been read.
type part struct {
	api.Part
	enum   []json.Value
	preset json.Value // what its Default has; nil: it has none
}

// parts is a schema; the first of them is for the whole document.
type parts []part

// under answers the number of the part for the field of that name; 0, which is for the whole document and for no field, if there is none.
func (p part) under(name string) int {
	for _, f := range p.Fields {
		if f.Name == name {
			return f.Part
		}
	}
	return 0
}

// read says what is wrong with s, and answers its parts.
func read(s []api.Part) (parts, api.Errno) {
	if len(s) == 0 {
		return nil, api.ErrArg
	}
	if len(s) > api.MaxShape {
		return nil, api.ErrLarge
	}
	var all parts
	for at := range s {
		p, e := readPart(s, at)
		if e != api.OK {
			return nil, e
		}
		all = append(all, p)
	}
	for at, p := range slices.Backward(all) {
		if p.preset != nil && all.hasFault(at, p.preset) {
			return nil, api.ErrInvalid
		}
	}
	return all, api.OK
}

// readPart says what is wrong with the part of s at that place, and answers it.
func readPart(s []api.Part, at int) (part, api.Errno) {
	p := part{Part: s[at]}
	if e := checkForm(p.Part); e != api.OK {
		return part{}, e
	}
	if e := checkNumbers(s, at); e != api.OK {
		return part{}, e
	}
	for _, doc := range p.Enum {
		v, e := json.Read(doc)
		if e != api.OK {
			return part{}, e
		}
		p.enum = append(p.enum, v)
	}
	if p.Default == "" {
		return p, api.OK
	}
	v, e := json.Read(p.Default)
	if e != api.OK {
		return part{}, e
	}
	p.preset = v
	return p, api.OK
}

// checkForm says what is wrong with p, whatever stands beside it and in its documents.
func checkForm(p api.Part) api.Errno {
	if p.Kind < api.KBool || p.Kind > api.KObject {
		return api.ErrArg
	}
	if max(len(p.Fields), len(p.Need), len(p.Enum)) > api.MaxFields {
		return api.ErrLarge
	}
	if hasStrange(p) {
		return api.ErrArg
	}
	return api.OK
}

// hasStrange tells whether p has what a part of its kind may not have.
func hasStrange(p api.Part) bool {
	isBool, isList, isObject := p.Kind == api.KBool, p.Kind == api.KList, p.Kind == api.KObject
	switch {
	case !isObject && (len(p.Fields) > 0 || len(p.Need) > 0 || p.Extra):
		return true
	case !isList && p.Items != 0:
		return true
	case (isList || isObject) && len(p.Enum) > 0:
		return true
	case (isBool || isObject) && (p.Least != 0 || p.Most != 0):
		return true
	}
	return false
}

// checkNumbers says what is wrong with the fields and the items of the part at that place, which name others by their numbers.
func checkNumbers(s []api.Part, at int) api.Errno {
	// Only those behind it: so no part is within itself.
	isBehind := func(n int) bool { return at < n && n < len(s) }
	fields := s[at].Fields
	for i, f := range fields {
		if slices.ContainsFunc(fields[:i], func(ahead api.Field) bool { return ahead.Name == f.Name }) {
			return api.ErrTwice
		}
		if !isBehind(f.Part) {
			return api.ErrNone
		}
	}
	if s[at].Kind == api.KList && !isBehind(s[at].Items) {
		return api.ErrNone
	}
	return api.OK
}
