package grants_test

import (
	"fmt"
	"math/rand"
	"slices"
	"strings"
	"testing"

	"seneschal/api"
	"seneschal/grants"
)

// permits is what one rule allows, as the chapter says it.
func permits(r api.Rule, verb, kind, name string) bool {
	v, k, n := false, false, len(r.Names) == 0
	for _, s := range r.Verbs {
		v = v || s == verb || s == "*"
	}
	for _, s := range r.Kinds {
		k = k || s == kind || s == "*"
	}
	for _, s := range r.Names {
		n = n || s == name && name != ""
	}
	return v && k && n
}

func permitted(l []api.Rule, verb, kind, name string) bool {
	for _, r := range l {
		if permits(r, verb, kind, name) {
			return true
		}
	}
	return false
}

// fresh is the first of x0, x1 and so on that isn't in any of the lists.
func fresh(lists ...[]string) string {
	for i := 0; ; i++ {
		s := fmt.Sprint("x", i)
		if !slices.Contains(slices.Concat(lists...), s) {
			return s
		}
	}
}

// beyond is what Beyond is to answer: everything is gone through, with texts that nobody has where all is meant.
func beyond(held []api.Rule, r api.Rule) (api.Ask, bool) {
	var v, k, n [][]string
	for _, h := range held {
		v, k, n = append(v, h.Verbs), append(k, h.Kinds), append(n, h.Names)
	}
	names := r.Names
	if len(names) == 0 {
		names = []string{fresh(n...)}
	}
	for _, verb := range r.Verbs {
		if verb == "*" {
			verb = fresh(v...)
		}
		for _, kind := range r.Kinds {
			if kind == "*" {
				kind = fresh(k...)
			}
			for _, name := range names {
				if name != "" && !permitted(held, verb, kind, name) {
					return api.Ask{Verb: verb, Kind: kind, Name: name}, true
				}
			}
		}
	}
	return api.Ask{}, false
}

// holding is what Held is to answer, where nothing is wrong: binds are looked up for each user and group, roles by their place.
func holding(g api.Grants, u api.User, space string) string {
	type place struct{ space, name string }
	at := make(map[place]string)
	for _, r := range g.Roles {
		at[place{r.Space, r.Name}] = told(r.Rules)
	}
	var b strings.Builder
	for _, bind := range g.Binds {
		if bind.Space != "" && bind.Space != space {
			continue
		}
		who := slices.Contains(bind.Users, u.Name)
		for _, group := range bind.Groups {
			who = who || slices.Contains(u.Groups, group)
		}
		role := place{bind.Space, bind.Role}
		if bind.Whole {
			role.space = ""
		}
		if who {
			b.WriteString(at[role])
		}
	}
	return b.String()
}

// dice makes things at random, the same ones each time.
type dice struct{ *rand.Rand }

func (d dice) of(l ...string) string { return l[d.Intn(len(l))] }

func (d dice) some(least, most int, l ...string) []string {
	var told []string
	for range least + d.Intn(most-least+1) {
		told = append(told, d.of(l...))
	}
	return told
}

// wild is a rule of few texts, some of which may not be.
func (d dice) wild() api.Rule {
	return api.Rule{
		Verbs: d.some(0, 3, "get", "put", "x0", "x1", "*", ""),
		Kinds: d.some(0, 3, "pods", "jobs", "x0", "x1", "*", ""),
		Names: d.some(0, 3, "a", "b", "x0", "x1", "*", ""),
	}
}

func (d dice) wilds(most int) []api.Rule {
	var l []api.Rule
	for range d.Intn(most + 1) {
		l = append(l, d.wild())
	}
	return l
}

// tame is a rule as it must be.
func (d dice) tame() api.Rule {
	return api.Rule{
		Verbs: d.some(1, 3, "get", "put", "cut", "*"),
		Kinds: d.some(1, 3, "pods", "jobs", "roles", "*"),
		Names: d.some(0, 2, "a", "b", "c"),
	}
}

func (d dice) tames(most int) []api.Rule {
	var l []api.Rule
	for range d.Intn(most + 1) {
		l = append(l, d.tame())
	}
	return l
}

// grants are some as they must be.
func (d dice) grants() api.Grants {
	var g api.Grants
	for i, space := range []string{"one", "", "two", "one", "two", ""} {
		r := api.Role{Space: space, Name: d.of("r", "s"), Rules: d.tames(3)}
		twice := slices.ContainsFunc(g.Roles, func(o api.Role) bool { return o.Space == r.Space && o.Name == r.Name })
		if !twice {
			g.Roles = append(g.Roles, r)
		}
		b := api.Bind{Space: d.of("one", "two", ""), Name: fmt.Sprint("b", i), Role: d.of("r", "s", "s", "t")}
		b.Whole = b.Space == "" || d.Intn(2) == 0
		b.Users, b.Groups = d.some(0, 2, "ann", "bob"), d.some(0, 2, "dev", "ops", "ann")
		g.Binds = append(g.Binds, b)
	}
	return g
}

func (d dice) user() api.User {
	groups := d.some(0, 2, "dev", "ops", "bob")
	return user(d.of("ann", "bob", "zoe"), slices.Compact(groups)...)
}

// P33: Allows, against the chapter's words.
func TestAllowsOracle(t *testing.T) {
	d := dice{rand.New(rand.NewSource(1))}
	for range 20000 {
		l := d.wilds(3)
		a := ask(d.of("get", "put", "*", ""), d.of("pods", "jobs", "*", ""), d.of("", "one"), d.of("a", "b", "*", ""))
		if is, want := grants.Allows(l, a), permitted(l, a.Verb, a.Kind, a.Name); is != want {
			t.Fatalf("Allows(%s, %q) = %v, want %v", told(l), a, is, want)
		}
	}
}

// P33: Held and May, against what is looked up otherwise.
func TestHeldOracle(t *testing.T) {
	d := dice{rand.New(rand.NewSource(2))}
	some := 0
	for range 10000 {
		g, u := d.grants(), d.user()
		for _, space := range []string{"", "one", "two", "three"} {
			l, e := grants.Held(g, u, space)
			if told(l) != holding(g, u, space) || e != api.OK {
				t.Fatalf("Held(%v, %q, %q) = %s, %d, want %s", g, u, space, told(l), e, holding(g, u, space))
			}
			some += min(len(l), 1)
			a := ask(d.of("get", "put"), d.of("pods", "jobs"), space, d.of("", "a", "b"))
			if is, e := grants.May(g, u, a); is != permitted(l, a.Verb, a.Kind, a.Name) || e != api.OK {
				t.Fatalf("May(%v, %q, %q) = %v, %d", g, u, a, is, e)
			}
		}
	}
	if some < 4000 {
		t.Errorf("only %d have anything", some)
	}
}

// agree holds Beyond and Covers against beyond; and whatever Beyond answers is allowed by r alone.
func agree(t *testing.T, held []api.Rule, r api.Rule) bool {
	t.Helper()
	a, is := grants.Beyond(held, r)
	want, f := beyond(held, r)
	if a != want || is != f {
		t.Fatalf("Beyond(%s, %q) = %q, %v, want %q, %v", told(held), r, a, is, want, f)
	}
	if grants.Covers(held, r) == is {
		t.Fatalf("Covers(%s, %q) = %v", told(held), r, !is)
	}
	if is && (!grants.Allows([]api.Rule{r}, a) || grants.Allows(held, a)) {
		t.Fatalf("Beyond(%s, %q) = %q, which is not so", told(held), r, a)
	}
	return is
}

// P34: Covers and Beyond, against the chapter's words.
func TestBeyondOracle(t *testing.T) {
	d := dice{rand.New(rand.NewSource(3))}
	more := 0
	for range 30000 {
		if agree(t, d.wilds(8), d.wild()) {
			more++
		}
		if agree(t, d.tames(8), d.tame()) {
			more++
		}
	}
	if more < 15000 || more > 52500 {
		t.Errorf("%d of 60000 go beyond", more)
	}
}

// P34: held covers r if, and only if, nothing that anybody could ask is allowed by r alone.
func TestCoversAll(t *testing.T) {
	d := dice{rand.New(rand.NewSource(4))}
	for range 20000 {
		held, r := d.wilds(6), d.wild()
		want := true
		for _, verb := range []string{"get", "put", "x0", "x1", "*", "", "other"} {
			for _, kind := range []string{"pods", "jobs", "x0", "x1", "*", "", "other"} {
				for _, name := range []string{"a", "b", "x0", "x1", "*", "", "other"} {
					want = want && (!permits(r, verb, kind, name) || permitted(held, verb, kind, name))
				}
			}
		}
		if is := grants.Covers(held, r); is != want {
			t.Fatalf("Covers(%s, %q) = %v", told(held), r, is)
		}
	}
}

// P34: nobody climbs: what may be granted gives to whom it is granted nothing that was not held.
func TestNobodyClimbs(t *testing.T) {
	d := dice{rand.New(rand.NewSource(5))}
	granted := 0
	for range 20000 {
		g, u, space, l := d.grants(), d.user(), d.of("", "one", "two"), d.tames(3)
		held, _ := grants.Held(g, u, space)
		covered := true
		for _, r := range l {
			_, more := beyond(held, r)
			covered = covered && !more
		}
		want := api.ErrDenied
		if covered || permitted(held, "escalate", "roles", "") {
			want = api.OK
		}
		if e := grants.MayGrant(g, u, space, l); e != want {
			t.Fatalf("MayGrant(%v, %q, %q, %s) = %d, want %d", g, u, space, told(l), e, want)
		}
		if want != api.OK || !covered {
			continue
		}
		granted++
		g.Roles = append(g.Roles, api.Role{Space: space, Name: "new", Rules: l})
		g.Binds = append(g.Binds, api.Bind{Space: space, Name: "new", Role: "new", Whole: space == "", Users: texts("new")})
		for range 20 {
			a := ask(d.of("get", "put", "cut", "x"), d.of("pods", "jobs", "roles", "x"), space, d.of("a", "b", "c", "x", ""))
			if is, e := grants.May(g, user("new"), a); is && !permitted(held, a.Verb, a.Kind, a.Name) || e != api.OK {
				t.Fatalf("%q is allowed by what %q could grant, %d", a, u, e)
			}
		}
	}
	if granted < 2000 {
		t.Errorf("only %d are granted", granted)
	}
}

func FuzzBeyond(f *testing.F) {
	f.Add("get pods; put *", "* pods a")
	f.Add("x0 x1 x0; * x0; ,get ,pods ,", "*, *,x1 ,a")
	f.Add("", "* *")
	f.Fuzz(func(t *testing.T, one, other string) {
		held := rules(one)
		for _, r := range rules(other) {
			agree(t, held, r)
			for _, a := range []api.Ask{ask("get", "pods", "", "a"), {}} {
				if grants.Allows(held, a) != permitted(held, a.Verb, a.Kind, a.Name) {
					t.Errorf("Allows(%s, %q)", told(held), a)
				}
			}
		}
	})
}
