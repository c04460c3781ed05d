package fields

import (
	"slices"

	"seneschal/api"
	"seneschal/json"
	"seneschal/name"
	"seneschal/ptr"
)

// wish is what a manager wants of an object of which others may have parts.
type wish struct {
	live    json.Value
	others  holders
	manager string
	had     []string // what the manager has had up to now
	leaves  []leaf
}

// read says what is wrong with what Apply is given.
func read(live string, owned []api.Owned, manager, want string) (wish, api.Errno) {
	v, e := json.Read(live)
	if e != api.OK {
		return wish{}, e
	}
	if e := Check(owned); e != api.OK {
		return wish{}, e
	}
	if e := name.Check(manager); e != api.OK {
		return wish{}, e
	}
	wanted, e := json.Read(want)
	if e != api.OK {
		return wish{}, e
	}
	if json.KindOf(v) != api.KObject || json.KindOf(wanted) != api.KObject {
		return wish{}, api.ErrKind
	}
	others := holdersOf(owned)
	had := others[manager]
	delete(others, manager)
	return wish{v, others, manager, had, leavesOf(wanted)}, api.OK
}

// against tells whether a leaf that is wanted can't be had beside what another one has with the pointer p: it can, if both are of one mind.
func (w wish) against(f leaf, p string) bool {
	return touch(p, f.pointer) && (p != f.pointer || !f.isIn(w.live))
}

// conflicts answers the leaves that can't be had beside what others have.
func (w wish) conflicts() []leaf {
	var l []leaf
	for _, f := range w.leaves {
		if w.others.some(func(p string) bool { return w.against(f, p) }) {
			l = append(l, f)
		}
	}
	return l
}

// fulfil answers what is made of live, and who has which parts then. Where there are no conflicts the others keep all that they have.
func (w wish) fulfil() (json.Value, holders) {
	has := w.others.without(func(p string) bool {
		return slices.ContainsFunc(w.leaves, func(f leaf) bool { return w.against(f, p) })
	})
	made := w.cleared(has)
	for _, f := range w.leaves {
		made = placed(made, f.steps, f.value)
	}
	has[w.manager] = pointers(w.leaves)
	return made, has
}

// cleared answers live without what the manager had, and wants no more, and in which no other one has a part.
func (w wish) cleared(others holders) json.Value {
	left := w.live
	for _, p := range w.had {
		// It can't fail: the pointers have been looked at.
		steps, _ := ptr.Steps(p)
		// What isn't there is passed over first: there may be any number of pointers, but not of values.
		if ptr.Find(left, steps) == nil || w.wants(p) || others.some(func(q string) bool { return touch(p, q) }) {
			continue
		}
		left, _ = ptr.Without(left, steps)
	}
	return left
}

// wants tells whether p is the pointer of a leaf that is wanted.
func (w wish) wants(p string) bool {
	return slices.ContainsFunc(w.leaves, func(f leaf) bool { return f.pointer == p })
}
