package schema

import (
	"slices"

	"seneschal/api"
	"seneschal/json"
)

// mostPresets is how many Defaults may come into a document.
const mostPresets = 1000

// filled answers v with the Defaults of what it lacks.
func (s parts) filled(v json.Value) (json.Value, api.Errno) {
	come := 0
	made := s.remade(0, v, func(p part, fields json.Object) json.Object {
		for _, f := range p.Fields {
			preset := s[f.Part].preset
			at, there := fields.Find(f.Name)
			// Beyond the limit none comes any more: each may bring others with it, and all of them together may be more than could be made.
			if there || preset == nil || come > mostPresets {
				continue
			}
			come++
			fields = slices.Concat(fields[:at], json.Object{{Name: f.Name, Value: preset}}, fields[at:])
		}
		return fields
	})
	if come > mostPresets {
		return nil, api.ErrLarge
	}
	return made, api.OK
}

// pruned answers v without the fields that the parts don't know.
func (s parts) pruned(v json.Value) json.Value {
	return s.remade(0, v, func(p part, fields json.Object) json.Object {
		if p.Extra {
			return fields
		}
		return slices.DeleteFunc(slices.Clone(fields), func(f json.Field) bool { return p.under(f.Name) == 0 })
	})
}

// remade answers v, for which the part at that place is, where each object that has a part of its kind has what change makes of its fields, and what is within that is remade behind it.
func (s parts) remade(at int, v json.Value, change func(part, json.Object) json.Object) json.Value {
	p := s[at]
	if json.KindOf(v) != p.Kind {
		return v
	}
	switch v := v.(type) {
	case json.Object:
		made := json.Object{}
		for _, f := range change(p, v) {
			if at := p.under(f.Name); at != 0 {
				f.Value = s.remade(at, f.Value, change)
			}
			made = append(made, f)
		}
		return made
	case json.List:
		made := json.List{}
		for _, item := range v {
			made = append(made, s.remade(p.Items, item, change))
		}
		return made
	}
	return v
}
