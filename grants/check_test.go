package grants_test

import (
	"fmt"
	"slices"
	"strconv"
	"strings"
	"testing"

	"seneschal/api"
	"seneschal/grants"
)

// mistake is a text that is no name, and what is told of it.
type mistake struct {
	s string
	e api.Errno
}

// mistakes are of all kinds, those at the limits among them.
func mistakes() []mistake {
	return []mistake{
		{"-", api.ErrName},
		{"-a", api.ErrName},
		{"a-", api.ErrName},
		{"A", api.ErrName},
		{"aBc", api.ErrName},
		{"a.b", api.ErrName},
		{"a,b", api.ErrName},
		{"a/b", api.ErrName},
		{"a b", api.ErrName},
		{"**", api.ErrName},
		{"*a", api.ErrName},
		{"a*", api.ErrName},
		{" *", api.ErrName},
		{"a\x00", api.ErrName},
		{"\xff", api.ErrName},
		{"é", api.ErrName},
		{strings.Repeat("*", 63), api.ErrName},
		{long(62) + "-", api.ErrName},
		{long(64), api.ErrLarge},
		{strings.Repeat("*", 64), api.ErrLarge},
		{strings.Repeat("-", 1000), api.ErrLarge},
	}
}

// long is a name of n bytes, if there may be one.
func long(n int) string {
	return strings.Repeat("a", n-1) + "9"
}

// words is n of them, which begin with s.
func words(s string, n int) []string {
	var l []string
	for i := range n {
		l = append(l, s+strconv.Itoa(i))
	}
	return l
}

func texts(l ...string) []string { return l }

// list reads a text like `get,list`.
func list(s string) []string {
	if s == "" {
		return nil
	}
	return strings.Split(s, ",")
}

// rules reads a text like `get,list pods a,b; * *`: of each rule the verbs, the kinds, and the names, if there are any.
func rules(s string) []api.Rule {
	var l []api.Rule
	for _, one := range strings.Split(s, ";") {
		parts := append(strings.Fields(one), "", "", "")
		if parts[0] != "" {
			l = append(l, api.Rule{Verbs: list(parts[0]), Kinds: list(parts[1]), Names: list(parts[2])})
		}
	}
	return l
}

func rule(s string) api.Rule {
	return rules(s)[0]
}

func ask(verb, kind, space, name string) api.Ask {
	return api.Ask{Verb: verb, Kind: kind, Space: space, Name: name}
}

// good are grants of which each part can be spoilt by itself.
func good() api.Grants {
	some := func() []api.Rule { return rules("*,get,list *,pods a,b; put,cut nodes,pods a,b") }
	return api.Grants{
		Roles: []api.Role{{Space: "one", Name: "r", Rules: some()}, {Space: "two", Name: "s", Rules: some()}},
		Binds: []api.Bind{
			{Space: "one", Name: "b", Role: "r", Users: texts("ann", "bob"), Groups: texts("dev", "ops")},
			{Space: "two", Name: "c", Role: "s", Users: texts("ann", "bob"), Groups: texts("dev", "ops")},
		},
	}
}

func checks(t *testing.T, what string, g api.Grants, e api.Errno) {
	t.Helper()
	if f := grants.Check(g); f != e {
		t.Errorf("Check of %s: %d, want %d", what, f, e)
	}
	u := api.User{Name: "ann"}
	if l, f := grants.Held(g, u, "one"); e != api.OK && (l != nil || f != e) {
		t.Errorf("Held of %s: %v, %d, want %d", what, l, f, e)
	}
	if is, f := grants.May(g, u, ask("get", "pods", "one", "a")); e != api.OK && (is || f != e) {
		t.Errorf("May of %s: %v, %d, want %d", what, is, f, e)
	}
	if f := grants.MayGrant(g, u, "one", nil); e != api.OK && f != e {
		t.Errorf("MayGrant of %s: %d, want %d", what, f, e)
	}
}

// P32: grants as they must be, with as much of everything as there may be.
func TestGood(t *testing.T) {
	checks(t, "nothing", api.Grants{}, api.OK)
	checks(t, "empty lists", api.Grants{Roles: []api.Role{}, Binds: []api.Bind{}}, api.OK)
	checks(t, "good ones", good(), api.OK)
	checks(t, "no rules, who is nobody", api.Grants{Roles: []api.Role{{Name: "r"}}, Binds: []api.Bind{{Space: "s", Name: "b", Role: "r"}}}, api.OK)
	full := api.Rule{Verbs: words("v", 6), Kinds: words("k", 6), Names: words("n", 6)}
	var g api.Grants
	for i := range 12 {
		g.Roles = append(g.Roles, api.Role{Name: "r" + strconv.Itoa(i), Rules: slices.Repeat([]api.Rule{full}, 8)})
		g.Binds = append(g.Binds, api.Bind{Name: "b" + strconv.Itoa(i), Role: "r", Whole: true, Users: words("u", 6), Groups: words("g", 6)})
		checks(t, "up to 12", g, api.OK)
	}
	for _, s := range []string{"a", "0", "a-b", "a--b", "x0", long(20), long(21), long(63)} {
		g := good()
		g.Roles = append(g.Roles, api.Role{Space: s, Name: s, Rules: []api.Rule{{Verbs: texts(s, s), Kinds: texts(s), Names: texts(s, s)}}})
		g.Binds = append(g.Binds, api.Bind{Space: s, Name: s, Role: s, Users: texts(s, s), Groups: texts(s)})
		checks(t, s, g, api.OK)
	}
}

// P32: `*` among verbs and kinds, at each place, beside others or by itself, even several.
func TestAllGood(t *testing.T) {
	for _, s := range []string{"* pods", "get *", "* *", "*,* *,*", "get,* pods,*", "*,get *,pods", "a,b,c,d,e,* *,a,b,c,d,e", "* * a,b"} {
		g := good()
		g.Roles[1].Rules = rules(s)
		checks(t, s, g, api.OK)
	}
}

// P32: the same Name in another Space is another one, and no Space is a space of its own.
func TestApart(t *testing.T) {
	g := api.Grants{
		Roles: []api.Role{{Space: "one", Name: "r"}, {Name: "r"}, {Space: "two", Name: "r"}, {Space: "r", Name: "one"}, {Name: "one"}},
		Binds: []api.Bind{{Space: "one", Name: "b", Role: "r"}, {Name: "b", Role: "r", Whole: true}, {Space: "two", Name: "b", Role: "r", Whole: true}, {Space: "b", Name: "one", Role: "r"}, {Name: "one", Role: "r", Whole: true}},
	}
	checks(t, "names in several spaces", g, api.OK)
	for i := range 5 {
		twice := api.Grants{Roles: append(slices.Clone(g.Roles), api.Role{Space: g.Roles[i].Space, Name: g.Roles[i].Name, Rules: rules("get pods")})}
		checks(t, "a role twice", twice, api.ErrTwice)
		// Whose Role and Whole are others is still the same bind.
		twice = api.Grants{Binds: append(slices.Clone(g.Binds), api.Bind{Space: g.Binds[i].Space, Name: g.Binds[i].Name, Role: "other", Whole: true})}
		checks(t, "a bind twice", twice, api.ErrTwice)
	}
	// A bind may be named as a role is, and the role that it binds need not be there.
	checks(t, "one name for all", api.Grants{Roles: []api.Role{{Space: "a", Name: "a"}}, Binds: []api.Bind{{Space: "a", Name: "a", Role: "b"}}}, api.OK)
}

// spoil makes grants wrong, in one way.
type spoil struct {
	what string
	e    api.Errno
	do   func(g *api.Grants)
}

// fill makes l as long as n says, with what may stand there.
func fill(l *[]string, n int) {
	for len(*l) < n {
		*l = append(*l, "more"+strconv.Itoa(len(*l)))
	}
}

// texted are spoils of one text, by all mistakes; the empty one among them, if it is none that may be.
func texted(what string, emptyToo bool, at func(g *api.Grants) *string) []spoil {
	var l []spoil
	all := mistakes()
	if emptyToo {
		all = append(all, mistake{"", api.ErrName})
	}
	for _, m := range all {
		l = append(l, spoil{fmt.Sprintf("%s %.70q", what, m.s), m.e, func(g *api.Grants) { *at(g) = m.s }})
	}
	return l
}

// listed are spoils of the texts of a list.
func listed(what string, star api.Errno, at func(g *api.Grants) *[]string) []spoil {
	var l []spoil
	for i := range 2 {
		text := func(g *api.Grants) *string {
			// Another spoil may have taken them away.
			fill(at(g), 2)
			return &(*at(g))[i]
		}
		place := what + " " + strconv.Itoa(i)
		l = append(l, texted(place, true, text)...)
		if star != api.OK {
			l = append(l, spoil{place + " *", star, func(g *api.Grants) { *text(g) = "*" }})
		}
	}
	return l
}

func ruleSpoils(role, at int) []spoil {
	of := func(g *api.Grants) *api.Rule { return &g.Roles[role].Rules[at] }
	verbs := func(g *api.Grants) *[]string { return &of(g).Verbs }
	kinds := func(g *api.Grants) *[]string { return &of(g).Kinds }
	names := func(g *api.Grants) *[]string { return &of(g).Names }
	place := fmt.Sprintf("role %d rule %d ", role, at)
	l := []spoil{
		{place + "7 verbs", api.ErrLarge, func(g *api.Grants) { fill(verbs(g), 7) }},
		{place + "7 kinds", api.ErrLarge, func(g *api.Grants) { fill(kinds(g), 7) }},
		{place + "7 names", api.ErrLarge, func(g *api.Grants) { fill(names(g), 7) }},
		{place + "no verbs", api.ErrArg, func(g *api.Grants) { *verbs(g) = nil }},
		{place + "no kinds", api.ErrArg, func(g *api.Grants) { *kinds(g) = []string{} }},
	}
	l = append(l, listed(place+"verb", api.OK, verbs)...)
	l = append(l, listed(place+"kind", api.OK, kinds)...)
	return append(l, listed(place+"name", api.ErrName, names)...)
}

func roleSpoils(i int) []spoil {
	place := fmt.Sprintf("role %d ", i)
	l := texted(place+"space", false, func(g *api.Grants) *string { return &g.Roles[i].Space })
	l = append(l, texted(place+"name", true, func(g *api.Grants) *string { return &g.Roles[i].Name })...)
	if i > 0 {
		l = append(l, spoil{place + "twice", api.ErrTwice, func(g *api.Grants) {
			g.Roles[i].Space, g.Roles[i].Name = g.Roles[0].Space, g.Roles[0].Name
		}})
	}
	l = append(l, spoil{place + "9 rules", api.ErrLarge, func(g *api.Grants) {
		for len(g.Roles[i].Rules) < 9 {
			g.Roles[i].Rules = append(g.Roles[i].Rules, rule("get pods"))
		}
	}})
	return slices.Concat(l, ruleSpoils(i, 0), ruleSpoils(i, 1))
}

func bindSpoils(i int) []spoil {
	place := fmt.Sprintf("bind %d ", i)
	users := func(g *api.Grants) *[]string { return &g.Binds[i].Users }
	groups := func(g *api.Grants) *[]string { return &g.Binds[i].Groups }
	l := texted(place+"space", false, func(g *api.Grants) *string { return &g.Binds[i].Space })
	l = append(l, texted(place+"name", true, func(g *api.Grants) *string { return &g.Binds[i].Name })...)
	l = append(l, texted(place+"role", true, func(g *api.Grants) *string { return &g.Binds[i].Role })...)
	if i > 0 {
		l = append(l, spoil{place + "twice", api.ErrTwice, func(g *api.Grants) {
			g.Binds[i].Space, g.Binds[i].Name = g.Binds[0].Space, g.Binds[0].Name
		}})
	}
	l = append(l, spoil{place + "no space", api.ErrArg, func(g *api.Grants) { g.Binds[i].Space, g.Binds[i].Whole = "", false }})
	l = append(l, spoil{place + "7 users", api.ErrLarge, func(g *api.Grants) { fill(users(g), 7) }})
	l = append(l, spoil{place + "7 groups", api.ErrLarge, func(g *api.Grants) { fill(groups(g), 7) }})
	l = append(l, listed(place+"user", api.ErrName, users)...)
	return append(l, listed(place+"group", api.ErrName, groups)...)
}

// spoils are all of them, in the order in which they are told.
func spoils() []spoil {
	many := []spoil{
		{"13 roles", api.ErrLarge, func(g *api.Grants) {
			for len(g.Roles) < 13 {
				g.Roles = append(g.Roles, api.Role{Name: "more" + strconv.Itoa(len(g.Roles))})
			}
		}},
		{"13 binds", api.ErrLarge, func(g *api.Grants) {
			for len(g.Binds) < 13 {
				g.Binds = append(g.Binds, api.Bind{Name: "more" + strconv.Itoa(len(g.Binds)), Role: "r", Whole: true})
			}
		}},
	}
	return slices.Concat(many, roleSpoils(0), roleSpoils(1), bindSpoils(0), bindSpoils(1))
}

// P32: each error by itself.
func TestOneWrong(t *testing.T) {
	for _, s := range spoils() {
		g := good()
		s.do(&g)
		checks(t, s.what, g, s.e)
	}
}

// P32: of two that apply the one that the chapter names first is told, roles ahead of binds.
func TestTwoWrong(t *testing.T) {
	l := spoils()
	for i, first := range l {
		for _, second := range l[i+1:] {
			// Who tell the same can't be told apart.
			if first.e == second.e {
				continue
			}
			g := good()
			second.do(&g)
			first.do(&g)
			if e := grants.Check(g); e != first.e {
				t.Fatalf("Check of %s with %s: %d, want %d", first.what, second.what, e, first.e)
			}
		}
	}
}

// P32: a bind without a Space must be Whole; one with a Space need not be, but may.
func TestWhole(t *testing.T) {
	for _, c := range []struct {
		space string
		whole bool
		e     api.Errno
	}{{"", false, api.ErrArg}, {"", true, api.OK}, {"one", false, api.OK}, {"one", true, api.OK}} {
		checks(t, fmt.Sprint(c), api.Grants{Binds: []api.Bind{{Space: c.space, Name: "b", Role: "r", Whole: c.whole}}}, c.e)
	}
}

// P32: what is asked for, each part by itself and two at a time.
func TestCheckAsk(t *testing.T) {
	asks := func(a api.Ask, e api.Errno) {
		t.Helper()
		if f := grants.CheckAsk(a); f != e {
			t.Errorf("CheckAsk(%.300q) = %d, want %d", a, f, e)
		}
		if is, f := grants.May(good(), api.User{Name: "ann"}, a); e != api.OK && (is || f != e) {
			t.Errorf("May %.300q: %v, %d, want %d", a, is, f, e)
		}
	}
	for _, s := range []string{"a", "0", "a--b", "x0", long(21), long(63)} {
		asks(ask(s, s, s, s), api.OK)
		asks(ask(s, s, "", s), api.OK)
		asks(ask(s, s, s, ""), api.OK)
		asks(ask(s, s, "", ""), api.OK)
		asks(ask("", s, s, s), api.ErrName)
		asks(ask(s, "", s, s), api.ErrName)
	}
	asks(api.Ask{}, api.ErrName)
	wrong := append(mistakes(), mistake{"*", api.ErrName})
	for _, m := range wrong {
		asks(ask(m.s, "k", "s", "n"), m.e)
		asks(ask("v", m.s, "s", "n"), m.e)
		asks(ask("v", "k", m.s, "n"), m.e)
		asks(ask("v", "k", "s", m.s), m.e)
		for _, o := range wrong {
			asks(ask(m.s, o.s, o.s, o.s), m.e)
			asks(ask("v", m.s, o.s, o.s), m.e)
			asks(ask("v", "k", m.s, o.s), m.e)
		}
	}
	asks(ask("", long(64), "", ""), api.ErrName)
	asks(ask(long(64), "", "", ""), api.ErrLarge)
}

// P1: what is far too much is answered too.
func TestGreatGrants(t *testing.T) {
	const n = 100000
	g := api.Grants{Roles: make([]api.Role, n), Binds: make([]api.Bind, n)}
	checks(t, "many roles and binds", g, api.ErrLarge)
	g = good()
	g.Roles[0].Rules = make([]api.Rule, n)
	checks(t, "many rules", g, api.ErrLarge)
	for _, r := range []api.Rule{{Verbs: make([]string, n)}, {Kinds: make([]string, n)}, {Names: make([]string, n)}} {
		g = good()
		g.Roles[0].Rules[0] = r
		checks(t, "many words", g, api.ErrLarge)
	}
	for i := range 2 {
		g = good()
		g.Binds[i].Users = make([]string, n)
		checks(t, "many users", g, api.ErrLarge)
		g = good()
		g.Binds[i].Groups = make([]string, n)
		checks(t, "many groups", g, api.ErrLarge)
	}
}
