package grants_test

import (
	"fmt"
	"slices"
	"strings"
	"testing"

	"seneschal/api"
	"seneschal/grants"
)

// goes holds what Beyond answers of the rules that some texts say; an empty Verb says that all is covered.
func goes(t *testing.T, held []api.Rule, r api.Rule, want api.Ask) {
	t.Helper()
	a, is := grants.Beyond(held, r)
	if a != want || is != (want != api.Ask{}) {
		t.Errorf("Beyond(%.300s, %.300q) = %q, %v, want %q", told(held), r, a, is, want)
	}
	if covers := grants.Covers(held, r); covers == is {
		t.Errorf("Covers(%.300s, %.300q) = %v, but Beyond answers %v", told(held), r, covers, is)
	}
}

// P34: what is covered, and of what isn't the first, for rules as they must be.
func TestBeyond(t *testing.T) {
	for _, c := range []struct {
		held, r, want string
	}{
		{"", "get pods", "get pods x0"},
		{"", "get pods a", "get pods a"},
		{"", "* *", "x0 x0 x0"},
		{"", "* * a", "x0 x0 a"},
		{"get pods", "get pods", ""},
		{"get pods", "get pods a", ""},
		{"get pods", "get pods a,b", ""},
		{"get pods", "put pods", "put pods x0"},
		{"get pods", "get nodes a", "get nodes a"},
		{"get pods", "get,put pods,nodes a,b", "get nodes a"},
		{"get pods", "put,get nodes,pods b,a", "put nodes b"},
		{"get,put pods", "get,put pods,nodes a,b", "get nodes a"},
		{"get,put nodes,pods", "put,get pods,nodes a,b", ""},
		{"get,put,cut nodes,pods,jobs a,b,c", "put,get pods,nodes a,b", ""},
		// The sign for all, which only the sign covers.
		{"* pods", "get pods", ""},
		{"* pods", "* pods", ""},
		{"* pods", "get,*,put pods a", ""},
		{"* pods", "* nodes", "x0 nodes x0"},
		{"get pods", "* pods", "x0 pods x0"},
		{"get *", "* pods a", "x0 pods a"},
		{"get *", "get *", ""},
		{"get pods", "get *", "get x0 x0"},
		{"get pods", "get pods,*", "get x0 x0"},
		{"get pods", "get nodes,*", "get nodes x0"},
		{"get pods", "get,*,put pods a", "x0 pods a"},
		{"get pods", "get,put,* pods a", "put pods a"},
		{"* *", "* *", ""},
		{"* *", "* * a", ""},
		{"*,get *,pods", "*,put *,nodes a", ""},
		{"* pods; get *", "* *", "x0 x0 x0"},
		{"* pods; get *", "get,* pods,*", "x0 x0 x0"},
		{"* pods; get *", "get,put pods,nodes a", "put nodes a"},
		{"* pods; get *", "get,put pods", ""},
		{"* pods; get *", "* pods a", ""},
		// Names: only who has none covers none; one alone may lack.
		{"get pods a", "get pods", "get pods x0"},
		{"get pods a,b", "get pods b,a", ""},
		{"get pods a,b", "get pods b,c,d", "get pods c"},
		{"get pods a", "get pods a", ""},
		{"get pods a,b", "* * a", "x0 x0 a"},
		{"* * a", "* * a", ""},
		{"* * a", "* * a,b", "x0 x0 b"},
		{"* * a", "* *", "x0 x0 x0"},
		{"* * a", "get pods b,a", "get pods b"},
		// Rules that cover only together.
		{"get pods a; get pods b", "get pods a,b", ""},
		{"get pods a; get pods b", "get pods a,b,c", "get pods c"},
		{"get pods a; get pods b", "get pods", "get pods x0"},
		{"get pods; put pods", "get,put pods", ""},
		{"get pods; put pods a", "get,put pods", "put pods x0"},
		{"get pods; put pods a", "get,put pods a", ""},
		{"get pods; put nodes", "get,put pods,nodes", "get nodes x0"},
		{"get pods; put nodes; get nodes", "get,put pods,nodes", "put pods x0"},
		{"get pods; put nodes; put pods; get nodes", "get,put pods,nodes", ""},
		{"get pods a; get nodes a; put pods b; put nodes a,b; get,put pods,nodes b", "get,put pods,nodes a,b", "put pods a"},
		{"get pods a; get nodes a; put pods b; put * a,b; get,put pods,nodes b", "get,put pods,nodes a,b", ""},
		{"get pods; put pods; cut pods; * pods a", "* pods a", ""},
		{"get pods; put pods; cut pods; * pods a", "* pods", "x0 pods x0"},
		// The order of verbs, then kinds, then names, as they stand in r.
		{"a k n", "b,a j,k m,n", "b j m"},
		{"* j; a k n", "b,a j,k m,n", "b k m"},
		{"* j; b k m,n; a k n", "b,a j,k m,n", "a k m"},
		{"* j; b k m,n; a k n", "b,a j,k n,m", "a k m"},
		{"* j; b,a k m,n", "b,a j,k n,m", ""},
		{"a k n", "a,a,b,b k,k,j,j n,n,m,m", "a k m"},
		{"a k", "a,a,b,b k,k,j,j n,n,m,m", "a j n"},
		{"a *", "a,a,b,b k,k,j,j n,n,m,m", "b k n"},
	} {
		var want api.Ask
		if l := strings.Fields(c.want); len(l) == 3 {
			want = ask(l[0], l[1], "", l[2])
		}
		goes(t, rules(c.held), rule(c.r), want)
	}
}

// P34: the texts that stand where r has all: the first that no rule of held has at that side.
func TestFreeTexts(t *testing.T) {
	for _, c := range []struct {
		held, r, want string
	}{
		{"x0 pods", "* pods", "x1 pods x0"},
		{"get x0", "get *", "get x1 x0"},
		{"get pods x0", "get pods", "get pods x1"},
		{"x0 x1 x2", "* *", "x1 x0 x0"},
		{"x0,x1 x0 x0,x1,x2", "* *", "x2 x1 x3"},
		{"x1 x2,x0 x1,x3", "* *", "x0 x1 x0"},
		{"x1,x0,x3 x0 x00", "* *", "x2 x1 x0"},
		{"x0 pods; x1 pods; x2 pods a", "* pods", "x3 pods x0"},
		{"x2 pods; x1 pods; x0 pods a", "* pods", "x3 pods x0"},
		{"x2 pods; x3 pods; x0 pods a", "* pods", "x1 pods x0"},
		// Rules that have nothing to do with r are of held, too.
		{"x0 x0 x0; x1,x2 x1 x1", "* pods a", "x3 pods a"},
		{"x0 x0 x0; x1,x2 x1 x1", "get pods", "get pods x2"},
		{"x0 x0 x0; x1,x2 x1 x1", "get * a", "get x2 a"},
		{"*,x0 pods; get *,x0; x0 pods a", "* *", "x1 x1 x0"},
		{"* pods x0", "* pods", "x0 pods x1"},
		{"* * x0,x1; * * x2", "* *", "x0 x0 x3"},
		{"X0,x,x-0,x01,x10 pods", "* pods", "x0 pods x0"},
		{"x0,x1,x2,x3,x4,x5; x6,x7,x8,x9,x10; x12", "* pods a", "x11 pods a"},
		// They stand for all alone: what r has by its own name stays.
		{"", "x0 x0", "x0 x0 x0"},
		{"x0 x0 x0", "x0 x0", "x0 x0 x1"},
		{"x1 x1", "x0 x0 x0", "x0 x0 x0"},
		{"get pods", "get,*,x1 pods a", "x0 pods a"},
	} {
		l := strings.Fields(c.want)
		goes(t, rules(c.held), rule(c.r), ask(l[0], l[1], "", l[2]))
	}
	var many []api.Rule
	for i := range 1000 {
		many = append(many, api.Rule{Verbs: texts(fmt.Sprint("x", i)), Kinds: words("x", 300), Names: words("x", i)})
	}
	goes(t, many, rule("* *"), ask("x1000", "x300", "", "x999"))
}

// P34: Covers and Beyond ask of rules no more than their bytes.
func TestBeyondAnything(t *testing.T) {
	of := func(verbs, kinds, names []string) api.Rule {
		return api.Rule{Verbs: verbs, Kinds: kinds, Names: names}
	}
	most := of(texts("*"), texts("*"), nil)
	for _, c := range []struct {
		held []api.Rule
		r    api.Rule
		want api.Ask
	}{
		// Who has no verbs, no kinds, or no names but empty ones allows nothing.
		{nil, api.Rule{}, api.Ask{}},
		{nil, of(nil, texts("*"), nil), api.Ask{}},
		{nil, of(texts("*"), nil, nil), api.Ask{}},
		{nil, of(texts("*"), []string{}, texts("a")), api.Ask{}},
		{nil, of(texts("*"), texts("*"), texts("")), api.Ask{}},
		{nil, of(texts("*"), texts("*"), texts("", "")), api.Ask{}},
		{nil, of(texts("*"), texts("*"), []string{}), ask("x0", "x0", "", "x0")},
		{[]api.Rule{{}, of(nil, texts("*"), nil), of(texts("*"), nil, nil), of(texts("*"), texts("*"), texts(""))}, most, ask("x0", "x0", "", "x0")},
		{[]api.Rule{of(texts("*"), texts("*"), texts(""))}, rule("get pods a"), ask("get", "pods", "", "a")},
		// Empty names are passed over.
		{nil, of(texts("get"), texts("pods"), texts("", "a", "")), ask("get", "pods", "", "a")},
		{[]api.Rule{rule("get pods a")}, of(texts("get"), texts("pods"), texts("", "a", "")), api.Ask{}},
		{[]api.Rule{rule("get pods a")}, of(texts("get"), texts("pods"), texts("", "a", "", "b")), ask("get", "pods", "", "b")},
		{[]api.Rule{of(texts("get"), texts("pods"), texts("", "a"))}, of(texts("get"), texts("pods"), texts("a", "")), api.Ask{}},
		{[]api.Rule{of(texts("get"), texts("pods"), texts("", "a"))}, rule("get pods"), ask("get", "pods", "", "x0")},
		// Empty verbs and kinds are texts like others.
		{nil, of(texts(""), texts("pods"), texts("a")), ask("", "pods", "", "a")},
		{nil, of(texts("get"), texts(""), texts("a")), ask("get", "", "", "a")},
		{[]api.Rule{rule("get pods")}, of(texts("get", ""), texts("pods"), texts("a")), ask("", "pods", "", "a")},
		{[]api.Rule{of(texts(""), texts(""), nil)}, of(texts(""), texts(""), nil), api.Ask{}},
		{[]api.Rule{of(texts(""), texts(""), nil)}, most, ask("x0", "x0", "", "x0")},
		{[]api.Rule{most}, of(texts("", "A"), texts("\xff", ""), nil), api.Ask{}},
		// Among names the sign for all is a text like others.
		{nil, of(texts("get"), texts("pods"), texts("*")), ask("get", "pods", "", "*")},
		{[]api.Rule{of(texts("get"), texts("pods"), texts("*"))}, of(texts("get"), texts("pods"), texts("*")), api.Ask{}},
		{[]api.Rule{of(texts("get"), texts("pods"), texts("*"))}, rule("get pods"), ask("get", "pods", "", "x0")},
		{[]api.Rule{of(texts("get"), texts("pods"), texts("*"))}, rule("get pods a"), ask("get", "pods", "", "a")},
		{[]api.Rule{rule("get pods a")}, of(texts("get"), texts("pods"), texts("a", "*")), ask("get", "pods", "", "*")},
		{[]api.Rule{rule("get pods")}, of(texts("get"), texts("pods"), texts("*")), api.Ask{}},
		{[]api.Rule{of(texts("get"), texts("pods"), texts("x0", "*"))}, rule("get pods"), ask("get", "pods", "", "x1")},
		// Texts of all kinds, and more of them than a rule may have.
		{[]api.Rule{of(texts("A b", "\xfe"), texts("\xff"), nil)}, of(texts("A b", "\xff"), texts("\xff"), texts("é")), ask("\xff", "\xff", "", "é")},
		{[]api.Rule{of(words("v", 100), words("k", 100), words("n", 100))}, of(words("v", 100), words("k", 100), words("n", 101)), ask("v0", "k0", "", "n100")},
		{[]api.Rule{of(words("v", 100), words("k", 100), words("n", 100))}, of(words("v", 101), words("k", 100), words("n", 100)), ask("v100", "k0", "", "n0")},
		{[]api.Rule{of(words("v", 100), words("k", 100), words("n", 100))}, of(words("v", 100), words("k", 100), words("n", 100)), api.Ask{}},
	} {
		goes(t, c.held, c.r, c.want)
		goes(t, slices.Concat([]api.Rule{{}}, c.held, c.held), c.r, c.want)
	}
}

// P34: words are held apart by all the rules that have them, wherever these stand among many.
func TestBeyondMany(t *testing.T) {
	for i := range 30 {
		for j := i + 1; j < 30; j++ {
			for k := range 30 {
				held := make([]api.Rule, 30)
				held[i] = rule("a pods m")
				held[j] = rule("a pods n")
				goes(t, held, rule("a,b pods m,n"), ask("b", "pods", "", "m"))
				if k != i && k != j {
					held[k] = rule("b pods m")
					goes(t, held, rule("a,b pods m,n"), ask("b", "pods", "", "n"))
				}
			}
		}
	}
}

// P1: lists far beyond what may be granted are answered too.
func TestGreatLists(t *testing.T) {
	const n = 30000
	v, k, names := words("v", n), words("k", n), words("n", n)
	great := api.Rule{Verbs: v, Kinds: k, Names: names}
	goes(t, []api.Rule{great}, great, api.Ask{})
	goes(t, []api.Rule{great}, api.Rule{Verbs: v, Kinds: k}, ask("v0", "k0", "", "x0"))
	goes(t, []api.Rule{great}, api.Rule{Verbs: v, Kinds: k, Names: append(slices.Clone(names), "m")}, ask("v0", "k0", "", "m"))
	same := slices.Repeat(texts("get"), n)
	goes(t, slices.Repeat(rules("get,get pods"), n), api.Rule{Verbs: same, Kinds: same, Names: same}, ask("get", "get", "", "get"))
	var one, all []api.Rule
	for i := range n {
		one = append(one, api.Rule{Verbs: v[i : i+1], Kinds: texts("*")})
		all = append(all, api.Rule{Verbs: texts("*"), Kinds: texts("*"), Names: names[i : i+1]})
	}
	goes(t, one, great, api.Ask{})
	goes(t, one, api.Rule{Verbs: append(slices.Clone(v), "*"), Kinds: k}, ask("x0", "k0", "", "x0"))
	goes(t, all, great, api.Ask{})
	goes(t, all, api.Rule{Verbs: v, Kinds: k}, ask("v0", "k0", "", "x0"))
	used := []api.Rule{{Verbs: words("x", n), Kinds: words("x", n), Names: words("x", n)}}
	goes(t, used, rule("* *"), ask("x30000", "x30000", "", "x30000"))
	for _, l := range [][]api.Rule{one, all, used, {great}} {
		if grants.Allows(l, ask("get", "pods", "", "")) {
			t.Error("what none of many rules allows is allowed")
		}
	}
}

// bosses are grants in which who may escalate roles has little else.
func bosses() api.Grants {
	return api.Grants{
		Roles: []api.Role{
			{Space: "one", Name: "some", Rules: rules("get,list pods; put pods a; get nodes a,b")},
			{Name: "esc", Rules: rules("get jobs; escalate roles")},
			{Name: "esc-a", Rules: rules("escalate roles a")},
			{Name: "esc-pods", Rules: rules("escalate pods,binds; grant roles")},
			{Name: "verbs", Rules: rules("* roles")},
			{Name: "kinds", Rules: rules("escalate *")},
			{Name: "all", Rules: rules("* *")},
			{Name: "all-a", Rules: rules("* * roles,escalate")},
		},
		Binds: []api.Bind{
			{Space: "one", Name: "some", Role: "some", Users: texts("ann", "eve")},
			{Space: "one", Name: "esc", Role: "esc", Whole: true, Users: texts("eve")},
			{Name: "esc-a", Role: "esc-a", Whole: true, Users: texts("bob")},
			{Name: "esc-pods", Role: "esc-pods", Whole: true, Users: texts("bob")},
			{Name: "verbs", Role: "verbs", Whole: true, Groups: texts("verbs")},
			{Name: "kinds", Role: "kinds", Whole: true, Groups: texts("kinds")},
			{Name: "all", Role: "all", Whole: true, Groups: texts("all")},
			{Name: "all-a", Role: "all-a", Whole: true, Groups: texts("all-a")},
		},
	}
}

// P34: who may grant what, and who is denied.
func TestMayGrant(t *testing.T) {
	for _, c := range []struct {
		u     api.User
		space string
		l     string
		e     api.Errno
	}{
		{user("ann"), "one", "", api.OK},
		{user("nobody"), "one", "", api.OK},
		{user("nobody"), "", "", api.OK},
		{user("nobody"), "one", "get pods a", api.ErrDenied},
		{user("ann"), "one", "get pods", api.OK},
		{user("ann"), "one", "list,get pods; put pods a; get pods,nodes a,b", api.OK},
		{user("ann"), "one", "get pods; get,list pods b; get nodes b,a; get nodes a; get nodes b; put pods a; list pods; get,put pods a", api.OK},
		{user("ann"), "one", "put pods", api.ErrDenied},
		{user("ann"), "one", "put pods b", api.ErrDenied},
		{user("ann"), "one", "get,put pods a", api.OK},
		{user("ann"), "one", "get,put nodes a", api.ErrDenied},
		{user("ann"), "one", "get nodes a,c", api.ErrDenied},
		{user("ann"), "one", "* pods a", api.ErrDenied},
		{user("ann"), "one", "get * a", api.ErrDenied},
		{user("ann"), "one", "escalate roles", api.ErrDenied},
		// One that isn't covered is enough, wherever it stands.
		{user("ann"), "one", "cut pods; get pods; list pods", api.ErrDenied},
		{user("ann"), "one", "get pods; cut pods; list pods", api.ErrDenied},
		{user("ann"), "one", "get pods; list pods; cut pods", api.ErrDenied},
		{user("ann"), "two", "get pods", api.ErrDenied},
		{user("ann"), "", "get pods", api.ErrDenied},
		// Who may escalate grants what they don't have, where they may.
		{user("eve"), "one", "* *", api.OK},
		{user("eve"), "one", "get pods; cut jobs a; * *", api.OK},
		{user("eve"), "two", "get pods a", api.ErrDenied},
		{user("eve"), "", "get pods a", api.ErrDenied},
		// To escalate roles of one name, or other things, or to grant roles, is not that.
		{user("bob"), "one", "get pods a", api.ErrDenied},
		{user("bob"), "one", "escalate roles a", api.OK},
		{user("bob"), "one", "escalate roles", api.ErrDenied},
		{user("bob"), "one", "escalate pods; grant roles", api.OK},
		{user("bob"), "one", "escalate,grant pods", api.ErrDenied},
		{user("x", "verbs"), "one", "get pods", api.OK},
		{user("x", "verbs"), "", "* *", api.OK},
		{user("x", "kinds"), "one", "get pods", api.OK},
		{user("x", "all"), "one", "* *", api.OK},
		{user("x", "all"), "", "* *", api.OK},
		{user("x", "all-a"), "one", "* *", api.ErrDenied},
		{user("x", "all-a"), "one", "* * roles", api.OK},
		{user("x", "all-a"), "one", "escalate roles roles", api.OK},
		{user("x", "all-a"), "one", "escalate roles", api.ErrDenied},
		{user("escalate", "roles"), "one", "get pods", api.ErrDenied},
	} {
		if e := grants.MayGrant(bosses(), c.u, c.space, rules(c.l)); e != c.e {
			t.Errorf("MayGrant(%q, %q, %s) = %d, want %d", c.u, c.space, c.l, e, c.e)
		}
	}
}

// P34: what is wrong with the rules that are to be granted, whoever asks; each alone, and the first of two.
func TestMayGrantRules(t *testing.T) {
	says := func(what string, g api.Grants, e api.Errno) {
		t.Helper()
		// Rules lie in a role, so that they can be spoilt as those of a role.
		for _, u := range []api.User{user("ann"), user("nobody"), user("x", "all")} {
			if f := grants.MayGrant(bosses(), u, "one", g.Roles[0].Rules); f != e {
				t.Fatalf("MayGrant(%q) of %s: %d, want %d", u, what, f, e)
			}
			if f := grants.MayGrant(bosses(), u, "One", g.Roles[0].Rules); f != api.ErrName {
				t.Fatalf("MayGrant(%q) in no space of %s: %d", u, what, f)
			}
		}
	}
	nine := spoil{"9 rules", api.ErrLarge, func(g *api.Grants) {
		l := &g.Roles[0].Rules
		for len(*l) < 9 {
			*l = append(*l, rule("get pods"))
		}
	}}
	l := slices.Concat([]spoil{nine}, ruleSpoils(0, 0), ruleSpoils(0, 1))
	for i, first := range l {
		g := good()
		first.do(&g)
		says(first.what, g, first.e)
		for _, second := range l[i+1:] {
			if first.e != second.e {
				g := good()
				second.do(&g)
				first.do(&g)
				says(first.what+" with "+second.what, g, first.e)
			}
		}
	}
	full := api.Rule{Verbs: words("v", 6), Kinds: words("k", 6), Names: words("n", 6)}
	for n := range 12 {
		e := api.OK
		if n > 8 {
			e = api.ErrLarge
		}
		if f := grants.MayGrant(bosses(), user("x", "all"), "", slices.Repeat([]api.Rule{full}, n)); f != e {
			t.Errorf("MayGrant of %d rules: %d, want %d", n, f, e)
		}
	}
}
