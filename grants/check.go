package grants

import (
	"seneschal/api"
	"seneschal/name"
	"seneschal/token"
)

// all stands for all verbs, or for all kinds; among names it means nothing.
const all = "*"

// mostWho is how many users, and how many groups, a bind may have.
const mostWho = 6

// checkRole says what is wrong with r behind those ahead of it.
func checkRole(r api.Role, ahead []api.Role) api.Errno {
	if e := checkPlace(r.Space, r.Name); e != api.OK {
		return e
	}
	for _, other := range ahead {
		if other.Space == r.Space && other.Name == r.Name {
			return api.ErrTwice
		}
	}
	return checkRules(r.Rules)
}

// checkBind says what is wrong with b behind those ahead of it.
func checkBind(b api.Bind, ahead []api.Bind) api.Errno {
	if e := checkPlace(b.Space, b.Name); e != api.OK {
		return e
	}
	if e := name.Check(b.Role); e != api.OK {
		return e
	}
	for _, other := range ahead {
		if other.Space == b.Space && other.Name == b.Name {
			return api.ErrTwice
		}
	}
	// A role of one space can't be granted in all of them.
	if b.Space == "" && !b.Whole {
		return api.ErrArg
	}
	if len(b.Users) > mostWho || len(b.Groups) > mostWho {
		return api.ErrLarge
	}
	if e := checkNames(b.Users); e != api.OK {
		return e
	}
	return checkNames(b.Groups)
}

func checkPlace(space, s string) api.Errno {
	if e := checkIfAny(space); e != api.OK {
		return e
	}
	return name.Check(s)
}

func checkRules(l []api.Rule) api.Errno {
	if len(l) > api.MaxRules {
		return api.ErrLarge
	}
	for _, r := range l {
		if e := checkRule(r); e != api.OK {
			return e
		}
	}
	return api.OK
}

func checkRule(r api.Rule) api.Errno {
	if max(len(r.Verbs), len(r.Kinds), len(r.Names)) > api.MaxWords {
		return api.ErrLarge
	}
	if len(r.Verbs) == 0 || len(r.Kinds) == 0 {
		return api.ErrArg
	}
	if e := checkWords(r.Verbs); e != api.OK {
		return e
	}
	if e := checkWords(r.Kinds); e != api.OK {
		return e
	}
	return checkNames(r.Names)
}

// checkWords says what is wrong with verbs or kinds.
func checkWords(l []string) api.Errno {
	for _, s := range l {
		if s == all {
			continue
		}
		if e := name.Check(s); e != api.OK {
			return e
		}
	}
	return api.OK
}

func checkNames(l []string) api.Errno {
	for _, s := range l {
		if e := name.Check(s); e != api.OK {
			return e
		}
	}
	return api.OK
}

// checkHeld says why there is no telling what u has in a space.
func checkHeld(g api.Grants, u api.User, space string) api.Errno {
	if e := checkHolder(g, u); e != api.OK {
		return e
	}
	return checkIfAny(space)
}

func checkHolder(g api.Grants, u api.User) api.Errno {
	if e := Check(g); e != api.OK {
		return e
	}
	return token.CheckUser(u)
}

// checkIfAny says what is wrong with a name that need not be there.
func checkIfAny(s string) api.Errno {
	if s == "" {
		return api.OK
	}
	return name.Check(s)
}
