package fields

import (
	"maps"
	"slices"
	"strings"

	"seneschal/api"
	"seneschal/ptr"
)

// holders is who has which parts: of each manager's name the pointers to them, rising.
type holders map[string][]string

func holdersOf(l []api.Owned) holders {
	has := holders{}
	for _, o := range l {
		has[o.Manager] = o.Paths
	}
	return has
}

// without answers who has which parts, but for the pointers that go.
func (h holders) without(goes func(p string) bool) holders {
	left := holders{}
	for who, paths := range h {
		left[who] = slices.DeleteFunc(slices.Clone(paths), goes)
	}
	return left
}

// some tells whether anybody has a pointer that is so.
func (h holders) some(is func(p string) bool) bool {
	for _, paths := range h {
		if slices.ContainsFunc(paths, is) {
			return true
		}
	}
	return false
}

// told answers who has which parts, without those who have none, in memory of its own.
func (h holders) told() []api.Owned {
	var l []api.Owned
	for _, who := range slices.Sorted(maps.Keys(h)) {
		if paths := h[who]; len(paths) > 0 {
			l = append(l, api.Owned{Manager: strings.Clone(who), Paths: copies(paths)})
		}
	}
	return l
}

func copies(l []string) []string {
	var out []string
	for _, s := range l {
		out = append(out, strings.Clone(s))
	}
	return out
}

// checkPaths says what is wrong with the pointers of one manager.
func checkPaths(l []string) api.Errno {
	for i, p := range l {
		steps, e := ptr.Steps(p)
		if e != api.OK {
			return e
		}
		// Steps takes no pointer that Join would tell otherwise; should it ever, touch must not be given one.
		told, _ := ptr.Join(steps)
		if len(steps) == 0 || i > 0 && p <= l[i-1] || p != told {
			return api.ErrArg
		}
	}
	if len(l) == 0 {
		return api.ErrArg
	}
	return api.OK
}
