package fields

import (
	"slices"
	"strings"

	"seneschal/api"
	"seneschal/json"
	"seneschal/ptr"
)

// leaf is a value that may be had as a part of its own, and the way to it.
type leaf struct {
	pointer string
	steps   []string
	value   json.Value
}

// leavesOf answers the leaves of v, rising by their pointers.
func leavesOf(v json.Value) []leaf {
	if json.KindOf(v) != api.KObject {
		return []leaf{{value: v}}
	}
	found := leavesWithin(json.FieldsOf(v), nil)
	// They come rising by their names, step by step; what these are written as does not rise so (`/a!` comes ahead of `/a/b`).
	slices.SortFunc(found, func(a, b leaf) int { return strings.Compare(a.pointer, b.pointer) })
	return found
}

// leavesWithin answers the leaves that lie in these fields, to which the way leads.
func leavesWithin(fields json.Object, way []string) []leaf {
	var found []leaf
	for _, f := range fields {
		further := slices.Concat(way, []string{f.Name})
		if inner := json.FieldsOf(f.Value); len(inner) > 0 {
			found = append(found, leavesWithin(inner, further)...)
			continue
		}
		// It can't fail: no way within a document has more steps than a pointer may have.
		p, _ := ptr.Join(further)
		found = append(found, leaf{p, further, f.Value})
	}
	return found
}

func pointers(l []leaf) []string {
	var out []string
	for _, f := range l {
		out = append(out, f.pointer)
	}
	return out
}

// isIn tells whether v has the leaf where its pointer leads to.
func (f leaf) isIn(v json.Value) bool {
	there := ptr.Find(v, f.steps)
	return there != nil && json.Equal(there, f.value)
}

// placed answers v with the item at the end of the steps, through objects alone: what is none gives way to one.
func placed(v json.Value, steps []string, item json.Value) json.Value {
	if len(steps) == 0 {
		return item
	}
	fields := json.FieldsOf(v)
	inner := placed(fields.Under(steps[0]), steps[1:], item)
	// It can't fail: an object takes a field of any name.
	made, _ := ptr.With(fields, steps[:1], inner)
	return made
}

// touch tells whether one of two pointers leads to, or through, what the other one leads to.
func touch(p, q string) bool {
	return begins(p, q) || begins(q, p)
}

// begins tells whether the steps of p are a beginning of those of q, or all of them. Their texts tell it, since each step is written in one way alone, without a `/`.
func begins(p, q string) bool {
	return strings.HasPrefix(q, p) && (len(p) == len(q) || q[len(p)] == '/')
}
