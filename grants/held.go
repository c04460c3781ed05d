package grants

import (
	"slices"
	"strings"

	"seneschal/api"
)

// allows tells whether r allows to ask a.
func allows(r api.Rule, a api.Ask) bool {
	return hasOrAll(r.Verbs, a.Verb) && hasOrAll(r.Kinds, a.Kind) && allowsName(r.Names, a.Name)
}

func hasOrAll(l []string, word string) bool {
	return slices.Contains(l, word) || slices.Contains(l, all)
}

func allowsName(l []string, s string) bool {
	// Who asks for no name asks for all of them, which no list of names allows.
	return len(l) == 0 || s != "" && slices.Contains(l, s)
}

// held answers the rules that u has in a space, in the memory of g.
func held(g api.Grants, u api.User, space string) []api.Rule {
	var l []api.Rule
	for _, b := range g.Binds {
		if concerns(b, u) && (b.Space == space || b.Space == "") {
			l = append(l, rulesOf(g.Roles, b)...)
		}
	}
	return l
}

func concerns(b api.Bind, u api.User) bool {
	if slices.Contains(b.Users, u.Name) {
		return true
	}
	for _, group := range u.Groups {
		if slices.Contains(b.Groups, group) {
			return true
		}
	}
	return false
}

// rulesOf answers the rules of the role that b binds, which need not be there.
func rulesOf(roles []api.Role, b api.Bind) []api.Rule {
	space := b.Space
	if b.Whole {
		space = ""
	}
	for _, r := range roles {
		if r.Space == space && r.Name == b.Role {
			return r.Rules
		}
	}
	return nil
}

// own answers l in memory of its own.
func own(l []api.Rule) []api.Rule {
	told := make([]api.Rule, 0, len(l))
	for _, r := range l {
		told = append(told, api.Rule{Verbs: ownTexts(r.Verbs), Kinds: ownTexts(r.Kinds), Names: ownTexts(r.Names)})
	}
	return told
}

func ownTexts(l []string) []string {
	told := make([]string, 0, len(l))
	for _, s := range l {
		told = append(told, strings.Clone(s))
	}
	return told
}
