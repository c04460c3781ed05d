package grants_test

import (
	"fmt"
	"strings"
	"testing"

	"seneschal/api"
	"seneschal/grants"
)

func user(name string, groups ...string) api.User {
	return api.User{Name: name, Groups: groups}
}

// told is a text that says all of l, each text in quotes.
func told(l []api.Rule) string {
	var b strings.Builder
	for _, r := range l {
		fmt.Fprintf(&b, "%q %q %q; ", r.Verbs, r.Kinds, r.Names)
	}
	return b.String()
}

// P33: what is allowed by rules as they must be.
func TestAllows(t *testing.T) {
	for _, c := range []struct {
		rules string
		a     api.Ask
		is    bool
	}{
		{"", ask("get", "pods", "", ""), false},
		{"get pods", ask("get", "pods", "", ""), true},
		{"get pods", ask("get", "pods", "one", ""), true},
		{"get pods", ask("get", "pods", "one", "a"), true},
		{"get pods", ask("list", "pods", "", "a"), false},
		{"get pods", ask("get", "nodes", "", "a"), false},
		{"get pods", ask("pods", "get", "", "a"), false},
		{"get pods", ask("ge", "pods", "", ""), false},
		{"get pods", ask("gets", "pods", "", ""), false},
		{"get pods", ask("get", "pod", "", ""), false},
		{"get,list pods", ask("list", "pods", "", ""), true},
		{"get,list pods,nodes", ask("list", "nodes", "", "a"), true},
		{"get,list pods,nodes", ask("put", "nodes", "", "a"), false},
		{"* pods", ask("put", "pods", "", "a"), true},
		{"* pods", ask("put", "nodes", "", "a"), false},
		{"get *", ask("get", "nodes", "", "a"), true},
		{"get *", ask("put", "nodes", "", "a"), false},
		{"get,* nodes,*", ask("put", "pods", "", ""), true},
		{"* *", ask("put", "nodes", "two", "a"), true},
		{"* *", ask("put", "nodes", "", ""), true},
		// With names only these, and never none.
		{"get pods a", ask("get", "pods", "one", "a"), true},
		{"get pods a", ask("get", "pods", "one", "b"), false},
		{"get pods a", ask("get", "pods", "one", ""), false},
		{"get pods a,b", ask("get", "pods", "one", "b"), true},
		{"get pods a,b", ask("get", "pods", "one", "ab"), false},
		{"* * a", ask("get", "pods", "one", "a"), true},
		{"* * a", ask("get", "pods", "one", ""), false},
		{"* * a", ask("get", "pods", "one", "b"), false},
		{"get pods a", ask("get", "nodes", "one", "a"), false},
		{"get pods a", ask("put", "pods", "one", "a"), false},
		// One rule must allow it by itself.
		{"get nodes; put pods", ask("get", "pods", "", ""), false},
		{"get pods a; get nodes", ask("get", "pods", "", "b"), false},
		{"get pods a; get pods b", ask("get", "pods", "", "b"), true},
		{"get pods a; get pods b", ask("get", "pods", "", ""), false},
		{"get pods a; get pods", ask("get", "pods", "", ""), true},
		{"put pods; put nodes; get pods", ask("get", "pods", "", ""), true},
		{"get pods; put pods; put nodes", ask("get", "pods", "", ""), true},
	} {
		if is := grants.Allows(rules(c.rules), c.a); is != c.is {
			t.Errorf("Allows(%s, %q) = %v", c.rules, c.a, is)
		}
	}
}

// P33: Allows asks of rules and of what is asked for no more than their bytes.
func TestAllowsAnything(t *testing.T) {
	of := func(verbs, kinds, names []string) api.Rule {
		return api.Rule{Verbs: verbs, Kinds: kinds, Names: names}
	}
	for _, c := range []struct {
		r  api.Rule
		a  api.Ask
		is bool
	}{
		{api.Rule{}, api.Ask{}, false},
		{of(texts(""), texts(""), nil), api.Ask{}, true},
		{of(texts(""), texts(""), texts("")), api.Ask{}, false},
		{of(texts("*"), texts("*"), texts("")), api.Ask{}, false},
		{of(texts("*"), texts("*"), texts("", "a")), api.Ask{}, false},
		{of(texts("*"), texts("*"), texts("", "a")), ask("", "", "", "a"), true},
		{of(texts("*"), texts("*"), []string{}), api.Ask{}, true},
		{of(nil, texts("*"), nil), ask("get", "pods", "", ""), false},
		{of(texts("*"), nil, nil), ask("get", "pods", "", ""), false},
		{of(texts(""), texts("*"), nil), ask("get", "pods", "", ""), false},
		// Among names the sign for all is a text like others.
		{of(texts("*"), texts("*"), texts("*")), ask("get", "pods", "", "a"), false},
		{of(texts("*"), texts("*"), texts("*")), ask("get", "pods", "", ""), false},
		{of(texts("*"), texts("*"), texts("*")), ask("get", "pods", "", "*"), true},
		// Who asks for `*` asks for that text.
		{of(texts("get"), texts("pods"), nil), ask("*", "pods", "", ""), false},
		{of(texts("get"), texts("pods"), nil), ask("get", "*", "", ""), false},
		{of(texts("get", "*"), texts("pods", "*"), nil), ask("*", "*", "", ""), true},
		{of(texts("A b"), texts("\xff"), texts(long(100))), ask("A b", "\xff", "-", long(100)), true},
		{of(texts("a b"), texts("\xff"), texts(long(100))), ask("A b", "\xff", "-", long(100)), false},
		{of(texts("A b"), texts("\xfe"), texts(long(100))), ask("A b", "\xff", "-", long(100)), false},
		{of(texts("A b"), texts("\xff"), texts(long(99))), ask("A b", "\xff", "-", long(100)), false},
		{of(texts("**"), texts("*"), nil), ask("get", "pods", "", ""), false},
		{of(texts("*"), texts("* "), nil), ask("get", "pods", "", ""), false},
		{of(words("v", 1000), words("k", 1000), words("n", 1000)), ask("v999", "k998", "s", "n997"), true},
		{of(words("v", 1000), words("k", 1000), words("n", 1000)), ask("v999", "k998", "s", "n1000"), false},
	} {
		if is := grants.Allows([]api.Rule{c.r}, c.a); is != c.is {
			t.Errorf("Allows(%.100q, %.100q) = %v", c.r, c.a, is)
		}
		if is := grants.Allows([]api.Rule{{}, c.r, {}}, c.a); is != c.is {
			t.Errorf("Allows(.. %.100q .., %.100q) = %v", c.r, c.a, is)
		}
	}
}

// house are grants with roles of one Name in several spaces, each with a rule that says which it is.
func house() api.Grants {
	return api.Grants{
		Roles: []api.Role{
			{Space: "two", Name: "r", Rules: rules("two-r pods")},
			{Name: "r", Rules: rules("all-r pods; more pods a")},
			{Space: "one", Name: "r", Rules: rules("one-r pods")},
			{Name: "s", Rules: rules("all-s *")},
			{Space: "one", Name: "t", Rules: rules("one-t pods,* a,b; * *")},
			{Name: "none"},
		},
		Binds: []api.Bind{
			{Name: "b1", Role: "r", Whole: true, Users: texts("ann"), Groups: texts("ops")},
			{Space: "one", Name: "b1", Role: "r", Users: texts("bob", "ann")},
			{Space: "two", Name: "b1", Role: "r", Users: texts("ann"), Groups: texts("dev", "ops")},
			{Space: "one", Name: "b2", Role: "r", Whole: true, Groups: texts("dev")},
			{Space: "one", Name: "b3", Role: "s", Users: texts("ann"), Groups: texts("dev")},
			{Name: "b4", Role: "t", Whole: true, Users: texts("ann"), Groups: texts("dev")},
			{Space: "one", Name: "b4", Role: "t", Users: texts("zoe"), Groups: texts("ops", "ann")},
			{Name: "b5", Role: "s", Whole: true, Groups: texts("bob")},
			{Space: "one", Name: "b6", Role: "none", Whole: true, Users: texts("ann", "bob", "zoe")},
			{Space: "two", Name: "b6", Role: "s", Whole: true, Users: texts("zoe")},
			{Name: "b6", Role: "r", Whole: true},
		},
	}
}

// P33: what who has where, in the order of the binds, and of the rules in their roles.
func TestHeld(t *testing.T) {
	const allR, t2 = "all-r pods; more pods a; ", "one-t pods,* a,b; * *; "
	for _, c := range []struct {
		u     api.User
		space string
		want  string
	}{
		{user("ann"), "", allR},
		{user("ann"), "one", allR + "one-r pods; "},
		{user("ann"), "two", allR + "two-r pods; "},
		{user("ann"), "three", allR},
		{user("bob"), "", ""},
		{user("bob"), "one", "one-r pods; "},
		{user("bob"), "two", ""},
		{user("zoe"), "one", t2},
		{user("zoe"), "two", "all-s *; "},
		{user("zoe"), "three", ""},
		{user("zoe"), "", ""},
		{user("eve"), "one", ""},
		{user("eve", "dev"), "", ""},
		{user("eve", "dev"), "one", allR},
		{user("eve", "dev"), "two", "two-r pods; "},
		{user("eve", "ops"), "", allR},
		{user("eve", "ops"), "one", allR + t2},
		{user("eve", "ops"), "two", allR + "two-r pods; "},
		{user("eve", "ops", "dev"), "one", allR + allR + t2},
		{user("eve", "dev", "ops"), "one", allR + allR + t2},
		{user("eve", "a", "b", "c", "d", "e", "dev"), "two", "two-r pods; "},
		// Who is bound by name and by groups is bound once.
		{user("ann", "dev", "ops"), "two", allR + "two-r pods; "},
		{user("ann", "dev", "ops"), "one", allR + "one-r pods; " + allR + t2},
		{user("ann", "dev", "ops"), "", allR},
		// A group is no user, and a user no group.
		{user("dev"), "one", ""},
		{user("ops"), "", ""},
		{user("eve", "zoe"), "one", ""},
		{user("eve", "zoe"), "two", ""},
		{user("eve", "bob"), "", "all-s *; "},
		{user("eve", "bob"), "two", "all-s *; "},
		{user("eve", "ann"), "one", t2},
	} {
		l, e := grants.Held(house(), c.u, c.space)
		if told(l) != told(rules(c.want)) || e != api.OK {
			t.Errorf("Held(%q, %q) = %s, %d, want %s", c.u, c.space, told(l), e, c.want)
		}
	}
}

// P33: a bind reaches the role of its own kind alone, though others have the same Name.
func TestRoleOfBind(t *testing.T) {
	role := func(space string) api.Role {
		return api.Role{Space: space, Name: "r", Rules: rules("of" + space + " pods")}
	}
	bind := func(space string, whole bool) api.Bind {
		return api.Bind{Space: space, Name: "b", Role: "r", Whole: whole, Users: texts("ann")}
	}
	for _, c := range []struct {
		roles []api.Role
		bind  api.Bind
		space string
		want  string
	}{
		{[]api.Role{role("one"), role("two"), role("")}, bind("one", false), "one", "ofone pods"},
		{[]api.Role{role("one"), role("two"), role("")}, bind("one", true), "one", "of pods"},
		{[]api.Role{role("one"), role("two"), role("")}, bind("two", false), "two", "oftwo pods"},
		{[]api.Role{role("one"), role("two"), role("")}, bind("two", false), "one", ""},
		{[]api.Role{role("one"), role("two"), role("")}, bind("two", true), "one", ""},
		{[]api.Role{role("one"), role("two"), role("")}, bind("one", false), "", ""},
		{[]api.Role{role("one"), role("two"), role("")}, bind("one", true), "", ""},
		{[]api.Role{role("one"), role("two"), role("")}, bind("", true), "one", "of pods"},
		{[]api.Role{role("one"), role("two"), role("")}, bind("", true), "", "of pods"},
		{[]api.Role{role("two"), role("")}, bind("one", false), "one", ""},
		{[]api.Role{role("one"), role("two")}, bind("one", true), "one", ""},
		{[]api.Role{role("one"), role("two")}, bind("", true), "one", ""},
		{nil, bind("", true), "one", ""},
		{nil, bind("one", false), "one", ""},
	} {
		l, e := grants.Held(api.Grants{Roles: c.roles, Binds: []api.Bind{c.bind}}, user("ann"), c.space)
		if told(l) != told(rules(c.want)) || e != api.OK {
			t.Errorf("Held by %v in %q = %s, %d, want %s", c.bind, c.space, told(l), e, c.want)
		}
	}
}

// P33: as many rules as there may be.
func TestHeldMost(t *testing.T) {
	var g api.Grants
	var want string
	for i := range 12 {
		r := rules(strings.Repeat(fmt.Sprintf("v%d k; ", i), 8))
		g.Roles = append(g.Roles, api.Role{Space: "one", Name: fmt.Sprint("r", i), Rules: r})
	}
	for i := range 12 {
		g.Binds = append(g.Binds, api.Bind{Space: "one", Name: fmt.Sprint("b", i), Role: fmt.Sprint("r", 11-i), Groups: texts("x", "dev")})
		want += told(g.Roles[11-i].Rules)
	}
	l, e := grants.Held(g, user("ann", "dev"), "one")
	if told(l) != want || len(l) != 96 || e != api.OK {
		t.Errorf("Held = %s, %d", told(l), e)
	}
}

// wrongUsers are some, with what token.CheckUser says of them.
func wrongUsers() map[*api.User]api.Errno {
	return map[*api.User]api.Errno{
		{}:                                   api.ErrName,
		{Name: "-"}:                          api.ErrName,
		{Name: "*"}:                          api.ErrName,
		{Name: long(21)}:                     api.ErrLarge,
		{Name: long(64)}:                     api.ErrLarge,
		{Name: "ann", Groups: words("g", 7)}: api.ErrLarge,
		{Name: "ann", Groups: texts("a", long(21))}: api.ErrLarge,
		{Name: "ann", Groups: texts("a", "")}:       api.ErrName,
		{Name: "ann", Groups: texts("a", "b", "a")}: api.ErrTwice,
	}
}

// P33, P34: the errors of Held, of May and of MayGrant, in their order.
func TestErrors(t *testing.T) {
	bad := house()
	bad.Roles = append(bad.Roles, api.Role{Name: "r"})
	nine := rules(strings.Repeat("get pods; ", 9))
	wrongSpaces := append(mistakes(), mistake{"*", api.ErrName})
	says := func(what string, g api.Grants, u api.User, space string, a api.Ask, l []api.Rule, held, may api.Errno) {
		t.Helper()
		if got, e := grants.Held(g, u, space); e != held || got != nil {
			t.Errorf("%s: Held = %v, %d, want %d", what, got, e, held)
		}
		if is, e := grants.May(g, u, a); e != may || is {
			t.Errorf("%s: May = %v, %d, want %d", what, is, e, may)
		}
		if e := grants.MayGrant(g, u, space, l); e != held {
			t.Errorf("%s: MayGrant = %d, want %d", what, e, held)
		}
	}
	for _, m := range wrongSpaces {
		for _, l := range [][]api.Rule{nil, nine, {{}}} {
			asks := []api.Ask{ask("get", "pods", m.s, ""), ask("get", "pods", m.s, "-")}
			for _, a := range asks {
				says("space "+m.s, house(), user("ann"), m.s, a, l, m.e, m.e)
				says("space behind grants", bad, user("ann"), m.s, a, l, api.ErrTwice, api.ErrTwice)
				for u, e := range wrongUsers() {
					says("space behind user", house(), *u, m.s, a, l, e, e)
					says("all behind grants", bad, *u, m.s, a, l, api.ErrTwice, api.ErrTwice)
				}
			}
			// Of what is asked for the verb and the kind come ahead of the space.
			says("verb", house(), user("ann"), m.s, ask("", long(64), m.s, ""), l, m.e, api.ErrName)
			says("kind", house(), user("ann"), m.s, ask("get", long(64), m.s, ""), l, m.e, api.ErrLarge)
		}
	}
	for u, e := range wrongUsers() {
		says("user", house(), *u, "one", ask("get", "pods", "one", ""), nil, e, e)
		says("user", house(), *u, "", ask(long(64), "", "", ""), nil, e, e)
		says("user", api.Grants{}, *u, "", api.Ask{}, nine, e, e)
	}
}

// P33: May says what Allows says of what is held in the space of what is asked for.
func TestMay(t *testing.T) {
	for _, c := range []struct {
		u  api.User
		a  api.Ask
		is bool
	}{
		{user("ann"), ask("all-r", "pods", "", ""), true},
		{user("ann"), ask("all-r", "pods", "one", "a"), true},
		{user("ann"), ask("all-r", "pods", "three", "a"), true},
		{user("ann"), ask("one-r", "pods", "", ""), false},
		{user("ann"), ask("one-r", "pods", "one", ""), true},
		{user("ann"), ask("one-r", "pods", "two", ""), false},
		{user("ann"), ask("two-r", "pods", "two", ""), true},
		{user("ann"), ask("all-s", "pods", "one", ""), false},
		{user("ann"), ask("more", "pods", "", "a"), true},
		{user("ann"), ask("more", "pods", "", ""), false},
		{user("ann"), ask("more", "pods", "", "b"), false},
		{user("zoe"), ask("all-s", "pods", "two", ""), true},
		{user("zoe"), ask("all-s", "pods", "one", ""), true},
		{user("zoe"), ask("all-s", "pods", "", ""), false},
		{user("eve", "bob"), ask("all-s", "nodes", "one", "a"), true},
		{user("eve", "bob"), ask("all-r", "nodes", "one", "a"), false},
		{user("eve"), ask("get", "pods", "one", "a"), false},
		{user(long(20), "ops"), ask("get", long(63), "one", long(63)), true},
	} {
		is, e := grants.May(house(), c.u, c.a)
		if is != c.is || e != api.OK {
			t.Errorf("May(%q, %q) = %v, %d", c.u, c.a, is, e)
		}
	}
	if is, e := grants.May(api.Grants{}, user("ann"), ask("get", "pods", "", "")); is || e != api.OK {
		t.Errorf("May, where nothing is granted: %v, %d", is, e)
	}
}
