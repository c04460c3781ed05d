package token

import (
	"strconv"
	"strings"

	"seneschal/api"
	"seneschal/seal"
)

// A token is what it says, which ends with a dot, and the signs of its Mac.
const (
	dots  = 3
	signs = 64
)

// tell answers what a token says.
func tell(u api.User, until int) string {
	return u.Name + "." + strings.Join(u.Groups, ",") + "." + strconv.Itoa(until) + "."
}

// sign answers what stands behind said in a token.
func sign(key, said string) string {
	return seal.Hex(seal.Mac(key, said))
}

// apart answers what a token says and what is signed, if it has the form of a token.
func apart(token string) (said, signed string, fits bool) {
	at := strings.LastIndexByte(token, '.') + 1
	said, signed = token[:at], token[at:]
	return said, signed, strings.Count(said, ".") == dots && areSigns(signed)
}

func areSigns(s string) bool {
	if len(s) != signs {
		return false
	}
	_, e := seal.Unhex(s)
	return e == api.OK
}

// read answers whose a token is and until when it is good, if tell would say the same of them.
func read(said string) (u api.User, until int, fits bool) {
	// None of the three is missing, since said has as many dots.
	parts := strings.Split(said, ".")
	u = api.User{Name: parts[0], Groups: groupsOf(parts[1])}
	if CheckUser(u) != api.OK {
		return api.User{}, 0, false
	}
	until, err := strconv.Atoi(parts[2])
	// Atoi also takes numbers that tell would write otherwise.
	if err != nil || !isTime(until) || tell(u, until) != said {
		return api.User{}, 0, false
	}
	return own(u), until, true
}

func groupsOf(s string) []string {
	if s == "" {
		return nil
	}
	// One more than there may be is enough to see that there are too many.
	return strings.SplitN(s, ",", api.MaxGroups+1)
}

// own answers u without the memory of the token in which it was read.
func own(u api.User) api.User {
	groups := make([]string, 0, len(u.Groups))
	for _, g := range u.Groups {
		groups = append(groups, strings.Clone(g))
	}
	return api.User{Name: strings.Clone(u.Name), Groups: groups}
}
