package grants_test

import (
	"reflect"
	"slices"
	"strings"
	"sync"
	"testing"
	"unsafe"

	"seneschal/api"
	"seneschal/grants"
)

func within(s, whole string) bool {
	if s == "" || whole == "" {
		return false
	}
	at, begin := uintptr(unsafe.Pointer(unsafe.StringData(s))), uintptr(unsafe.Pointer(unsafe.StringData(whole)))
	return begin <= at && at < begin+uintptr(len(whole))
}

func apart(t *testing.T, call, s string, others ...string) {
	t.Helper()
	for _, o := range others {
		if within(s, o) || within(o, s) {
			t.Errorf("%s: %q shares memory with what was handed in, or with another text", call, s)
		}
	}
}

// ownTexts is l in memory that nobody else has, with room behind it.
func ownTexts(l []string) []string {
	told := make([]string, 0, len(l)+2)
	for _, s := range l {
		told = append(told, strings.Clone(s))
	}
	copy(told[len(told):cap(told)], []string{"spare", "room"})
	return told
}

func ownRules(l []api.Rule) []api.Rule {
	told := make([]api.Rule, 0, len(l)+1)
	for _, r := range l {
		told = append(told, api.Rule{Verbs: ownTexts(r.Verbs), Kinds: ownTexts(r.Kinds), Names: ownTexts(r.Names)})
	}
	told[:cap(told)][len(l)] = rule("spare room")
	return told
}

// own is g in memory that nobody else has, with room behind each list.
func own(g api.Grants) api.Grants {
	roles, binds := make([]api.Role, 0, len(g.Roles)+1), make([]api.Bind, 0, len(g.Binds)+1)
	for _, r := range g.Roles {
		roles = append(roles, api.Role{Space: strings.Clone(r.Space), Name: strings.Clone(r.Name), Rules: ownRules(r.Rules)})
	}
	for _, b := range g.Binds {
		b.Space, b.Name, b.Role = strings.Clone(b.Space), strings.Clone(b.Name), strings.Clone(b.Role)
		b.Users, b.Groups = ownTexts(b.Users), ownTexts(b.Groups)
		binds = append(binds, b)
	}
	roles[:cap(roles)][len(roles)] = api.Role{Name: "spare"}
	binds[:cap(binds)][len(binds)] = api.Bind{Name: "spare"}
	return api.Grants{Roles: roles, Binds: binds}
}

// wholeRules are all texts of l, those in the room behind the lists too.
func wholeRules(l []api.Rule) []string {
	var told []string
	for _, r := range l[:cap(l)] {
		told = slices.Concat(told, r.Verbs[:cap(r.Verbs)], r.Kinds[:cap(r.Kinds)], r.Names[:cap(r.Names)])
	}
	return told
}

func whole(g api.Grants) []string {
	var told []string
	for _, r := range g.Roles[:cap(g.Roles)] {
		told = append(append(told, r.Space, r.Name), wholeRules(r.Rules)...)
	}
	for _, b := range g.Binds[:cap(g.Binds)] {
		told = slices.Concat(told, []string{b.Space, b.Name, b.Role}, b.Users[:cap(b.Users)], b.Groups[:cap(b.Groups)])
	}
	return told
}

// P2: rules that are told are new memory, each list and each text by itself.
func TestHeldMemory(t *testing.T) {
	g := own(house())
	u := user("ann", ownTexts(texts("dev", "ops"))...)
	l, e := grants.Held(g, u, "one")
	again, _ := grants.Held(g, u, "one")
	if e != api.OK || len(l) < 6 {
		t.Fatal(l, e)
	}
	given := append(whole(g), u.Groups[:cap(u.Groups)]...)
	given = append(given, wholeRules(again)...)
	all := wholeRules(l)
	for i, s := range all {
		apart(t, "Held", s, append(given, all[:i]...)...)
	}
	// What is done to one list is not seen in any other.
	before := told(again)
	for i := range l {
		for _, words := range [][]string{l[i].Verbs, l[i].Kinds, l[i].Names} {
			for j := range words[:cap(words)] {
				words[:cap(words)][j] = "spoilt"
			}
		}
		for _, later := range l[i+1:] {
			if slices.Contains(wholeRules([]api.Rule{later}), "spoilt") {
				t.Errorf("rule %d shares lists with one behind it", i)
			}
		}
	}
	clear(l[:cap(l)])
	third, _ := grants.Held(g, u, "one")
	if told(again) != before || told(third) != before {
		t.Errorf("told: %s, then %s, want %s", told(again), told(third), before)
	}
	if !slices.Equal(whole(g), whole(own(house()))) {
		t.Errorf("what was handed in has become %q", whole(g))
	}
}

// P2: what Beyond tells is new memory, with a text of r in it or one that is made.
func TestBeyondMemory(t *testing.T) {
	for _, s := range []string{"put nodes c", "* pods c", "put * c", "put pods", "* *"} {
		held, r := ownRules(rules("get,put pods,nodes a,b")), ownRules(rules(s))
		a, is := grants.Beyond(held, r[0])
		b, _ := grants.Beyond(held, r[0])
		if !is || a != b {
			t.Fatalf("Beyond of %s: %q, %q", s, a, b)
		}
		given := append(append(wholeRules(held), wholeRules(r)...), b.Verb, b.Kind, b.Name)
		apart(t, "Beyond", a.Verb, append(given, a.Kind, a.Name)...)
		apart(t, "Beyond", a.Kind, append(given, a.Verb, a.Name)...)
		apart(t, "Beyond", a.Name, append(given, a.Verb, a.Kind)...)
	}
}

// P2: nothing that is handed in is changed, the room behind the lists included.
func TestHandedIn(t *testing.T) {
	bad := house()
	bad.Binds = append(bad.Binds, bad.Binds[0])
	wild := []api.Rule{{Verbs: texts("b", "a", "b", "*", ""), Kinds: texts("*", "b", "a", "a"), Names: texts("", "b", "", "a", "a")}, {}, {Verbs: texts("*"), Kinds: texts("b", "*"), Names: texts("")}}
	for _, one := range []api.Grants{house(), bosses(), good(), bad, {}} {
		g, l := own(one), ownRules(wild)
		before, rulesBefore := own(one), ownRules(wild)
		u := user("ann", ownTexts(texts("ops", "dev"))...)
		grants.Check(g)
		for _, space := range []string{"", "one", "One"} {
			grants.Held(g, u, space)
			grants.May(g, u, ask("get", "pods", space, "a"))
			grants.MayGrant(g, u, space, l)
			grants.MayGrant(g, u, space, l[:0])
			if len(g.Roles) > 0 {
				grants.MayGrant(g, u, space, g.Roles[0].Rules)
			}
		}
		for _, r := range l {
			grants.Covers(l, r)
			grants.Beyond(l, r)
			grants.Beyond(l[:1], r)
			grants.Beyond(nil, r)
			grants.Allows(l, ask("a", "b", "", "a"))
		}
		if !slices.Equal(whole(g), whole(before)) || !slices.Equal(wholeRules(l), wholeRules(rulesBefore)) {
			t.Errorf("what was handed in has become %q, %q", whole(g), wholeRules(l))
		}
		if !reflect.DeepEqual(g, before) || !reflect.DeepEqual(l, rulesBefore) {
			t.Errorf("what was handed in has become %v, %v", g, l)
		}
		if !slices.Equal(u.Groups[:cap(u.Groups)], texts("ops", "dev", "spare", "room")) {
			t.Errorf("groups that were handed in have become %q", u.Groups)
		}
	}
}

// P2: nothing is kept from call to call, nor between calls at the same time.
func TestAnew(t *testing.T) {
	var all sync.WaitGroup
	for range 4 {
		all.Go(func() {
			for range 200 {
				l, e := grants.Held(house(), user("ann"), "two")
				if told(l) != told(rules("all-r pods; more pods a; two-r pods")) || e != api.OK {
					t.Errorf("Held = %s, %d", told(l), e)
				}
				if e := grants.MayGrant(bosses(), user("ann"), "one", rules("get nodes c")); e != api.ErrDenied {
					t.Errorf("MayGrant = %d", e)
				}
				checks(t, "good ones", good(), api.OK)
				goes(t, rules("x0 x1 x0"), rule("* *"), ask("x1", "x0", "", "x1"))
				goes(t, nil, rule("* *"), ask("x0", "x0", "", "x0"))
				if is, e := grants.May(bosses(), user("eve"), ask("get", "jobs", "one", "")); !is || e != api.OK {
					t.Errorf("May = %v, %d", is, e)
				}
				if e := grants.MayGrant(bosses(), user("eve"), "one", rules("get nodes c")); e != api.OK {
					t.Errorf("MayGrant = %d", e)
				}
			}
		})
	}
	all.Wait()
}
