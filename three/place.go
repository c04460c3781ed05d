package three

import (
	"slices"

	"seneschal/json"
)

// place is what the three have at one place (nil: nothing).
type place struct{ last, live, want json.Value }

// under answers what the three have under that name, which only objects do: a list has nothing there, even if the name is a number.
func (p place) under(name string) place {
	return place{
		last: json.FieldsOf(p.last).Under(name),
		live: json.FieldsOf(p.live).Under(name),
		want: json.FieldsOf(p.want).Under(name),
	}
}

// names answers the names of all fields that live and want have, rising.
func (p place) names() []string {
	var names []string
	for _, f := range slices.Concat(json.FieldsOf(p.live), json.FieldsOf(p.want)) {
		names = append(names, f.Name)
	}
	slices.Sort(names)
	return slices.Compact(names)
}

// merged answers what is made of the three at the place to which the way leads; the way to each field that goes is handed to goes.
func (p place) merged(way []string, goes func(way []string)) json.Value {
	if _, is := p.want.(json.Object); !is {
		return p.want
	}
	made := json.Object{}
	for _, name := range p.names() {
		further, in := slices.Concat(way, []string{name}), p.under(name)
		switch {
		case in.want != nil:
			made = append(made, json.Field{Name: name, Value: in.merged(further, goes)})
		case in.last != nil:
			goes(further)
		default:
			made = append(made, json.Field{Name: name, Value: in.live})
		}
	}
	return made
}
