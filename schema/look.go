package schema

import (
	"slices"
	"strconv"

	"seneschal/api"
	"seneschal/json"
	"seneschal/ptr"
)

// look is one look through a value for what is not as the parts ask; each fault is handed to tell, with the way to it.
type look struct {
	all  parts
	tell func(what api.Errno, way []string)
}

// faults answers where v is not as the part at that place asks, and what is wrong there.
func (s parts) faults(at int, v json.Value) []api.Fault {
	var found []api.Fault
	look{all: s, tell: func(what api.Errno, way []string) {
		// It can't fail: no way to a value, or to a field that an object may have, has more steps than a pointer may have.
		p, _ := ptr.Join(way)
		found = append(found, api.Fault{Path: p, What: what})
	}}.value(at, v, nil)
	return found
}

// hasFault tells whether there is any; it writes no pointers, since those to names that are needed may be of any length, and many.
func (s parts) hasFault(at int, v json.Value) bool {
	has := false
	look{all: s, tell: func(api.Errno, []string) { has = true }}.value(at, v, nil)
	return has
}

// value looks at v, to which the way leads, and at what is within it.
func (l look) value(at int, v json.Value, way []string) {
	p := l.all[at]
	if json.KindOf(v) != p.Kind {
		l.tell(api.ErrKind, way)
		return
	}
	if len(p.enum) > 0 && !slices.ContainsFunc(p.enum, func(one json.Value) bool { return json.Equal(one, v) }) {
		l.tell(api.ErrInvalid, way)
	}
	if amount(v) < p.Least {
		l.tell(api.ErrArg, way)
	}
	if amount(v) > p.Most {
		l.tell(api.ErrLarge, way)
	}
	l.within(p, v, way)
}

// amount is what is held against Least and Most; 0 of a bool and an object, whose parts have 0 as both.
func amount(v json.Value) int64 {
	switch v := v.(type) {
	case json.Number:
		return int64(v)
	case json.Text:
		return int64(len(v))
	case json.List:
		return int64(len(v))
	}
	return 0
}

// within looks at what is in v, which is of the kind of p.
func (l look) within(p part, v json.Value, way []string) {
	switch v := v.(type) {
	case json.Object:
		l.names(p, v, way)
		for _, f := range v {
			if at := p.under(f.Name); at != 0 {
				l.value(at, f.Value, further(way, f.Name))
			}
		}
	case json.List:
		for i, item := range v {
			l.value(p.Items, item, further(way, strconv.Itoa(i)))
		}
	}
}

// names looks for fields that are needed and not there, then for those that nobody knows.
func (l look) names(p part, fields json.Object, way []string) {
	for _, name := range p.Need {
		if fields.Under(name) == nil {
			l.tell(api.ErrNone, further(way, name))
		}
	}
	for _, f := range fields {
		if !p.Extra && p.under(f.Name) == 0 {
			l.tell(api.ErrName, further(way, f.Name))
		}
	}
}

// further answers the way with one more step, in memory of its own.
func further(way []string, step string) []string {
	return slices.Concat(way, []string{step})
}
