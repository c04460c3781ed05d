package merge

import (
	"seneschal/api"
	"seneschal/json"
)

// meet answers an object of the fields of a and b: of is given what each of them has under one name (nil: it has none), and answers what is to be there (nil: nothing).
func meet(a, b json.Object, of making) (json.Value, api.Errno) {
	out := json.Object{}
	for len(a) > 0 || len(b) > 0 {
		name := firstName(a, b)
		var v, w json.Value
		v, a = take(a, name)
		w, b = take(b, name)
		made, e := of(v, w)
		if e != api.OK {
			return nil, e
		}
		if made != nil {
			out = append(out, json.Field{Name: name, Value: made})
		}
	}
	return out, api.OK
}

// firstName answers the lowest name of the fields of a and b, of which at least one has some.
func firstName(a, b json.Object) string {
	if len(b) == 0 || len(a) > 0 && a[0].Name < b[0].Name {
		return a[0].Name
	}
	return b[0].Name
}

// take answers what the first field has, if that is its name, and the fields behind it.
func take(fields json.Object, name string) (json.Value, json.Object) {
	if len(fields) == 0 || fields[0].Name != name {
		return nil, fields
	}
	return fields[0].Value, fields[1:]
}
