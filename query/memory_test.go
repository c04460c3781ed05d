package query_test

import (
	"reflect"
	"slices"
	"strings"
	"testing"
	"unsafe"

	"seneschal/api"
	"seneschal/query"
)

func within(s, whole string) bool {
	if s == "" || whole == "" {
		return false
	}
	at, begin := uintptr(unsafe.Pointer(unsafe.StringData(s))), uintptr(unsafe.Pointer(unsafe.StringData(whole)))
	return begin <= at && at < begin+uintptr(len(whole))
}

func shares(s, whole string) bool {
	return within(s, whole) || within(whole, s)
}

// own is texts in memory that nobody else has, with room behind the list.
func own(l ...string) []string {
	out := make([]string, 0, len(l)+2)
	for _, s := range l {
		out = append(out, strings.Clone(s))
	}
	copy(out[len(l):cap(out)], []string{"spare", "room"})
	return out
}

// busy is a selector that has something of all kinds, in memory that nobody else has, with room behind its lists.
func busy() []api.Req {
	l := append(make([]api.Req, 0, 9),
		in(strings.Clone("zone"), own("y", "x", "z")...), there(strings.Clone("kind")), notIn(strings.Clone("kind"), own("", "0")...),
		not(strings.Clone("old")), in(strings.Clone("app"), own("web")...), in(strings.Clone("zone"), own("z", "y")...))
	l[:9][6] = there("spare")
	return l
}

func wholeParts(l []api.Req) []api.Req {
	l = slices.Clone(l[:cap(l)])
	for i, r := range l {
		l[i].Vals = slices.Clone(r.Vals[:cap(r.Vals)])
	}
	return l
}

func textsOf(l []api.Req) []string {
	var out []string
	for _, r := range l {
		out = append(append(out, r.Key), r.Vals...)
	}
	return out
}

func apart(t *testing.T, call string, told, given []string) {
	t.Helper()
	for _, s := range told {
		if slices.ContainsFunc(given, func(g string) bool { return shares(s, g) }) {
			t.Errorf("%s: %s shares memory with what was handed in", call, s)
		}
	}
}

func textsOfLabels(l []api.Label) []string {
	var out []string
	for _, label := range l {
		out = append(out, label.Key, label.Val)
	}
	return out
}

// P2: what is told is new memory.
func TestMemory(t *testing.T) {
	for _, l := range [][]api.Req{busy(), busy()[:1], busy()[1:2], busy()[3:4], busy()[4:5], sel(in(strings.Clone("longer/key"), strings.Clone("longer-value")))} {
		s, e := query.Print(l)
		if s == "" || e != api.OK {
			t.Errorf("Print(%s) = %q, %d", show(l), s, e)
		}
		apart(t, "Print", []string{s}, textsOf(l))
		made, is, e := query.Solve(l)
		if !is || e != api.OK {
			t.Errorf("Solve(%s) = %v, %d", show(l), is, e)
		}
		apart(t, "Solve", textsOfLabels(made), textsOf(l))
		b := sel(notIn(strings.Clone("beside"), own("value", "other")...))
		is, made, e = query.Implies(l, b)
		if is || e != api.OK || !slices.Contains(made, api.Label{Key: "beside", Val: "other"}) {
			t.Errorf("Implies(%s, %s) = %v, %q, %d", show(l), show(b), is, made, e)
		}
		apart(t, "Implies", textsOfLabels(made), append(textsOf(l), textsOf(b)...))
		text := strings.Clone(s)
		parts, e := query.Parse(text)
		if e != api.OK {
			t.Errorf("Parse(%q) = %d", text, e)
		}
		apart(t, "Parse", textsOf(parts), []string{text})
	}
}

// P2: no two lists of an answer share memory, the room behind them included.
func TestListsApart(t *testing.T) {
	l, e := query.Parse("a=x,b!=y,c in (x,y,z),d notin (x),e,!f,g in (p,q)")
	if e != api.OK || len(l) != 7 {
		t.Fatal(l, e)
	}
	for i, r := range l {
		room := r.Vals[:cap(r.Vals)]
		for j := range room {
			room[j] = "spoilt"
		}
		for k, s := range l {
			if k > i && slices.Contains(s.Vals[:cap(s.Vals)], "spoilt") {
				t.Errorf("lists of parts %d and %d share memory", i, k)
			}
		}
	}
}

// P2: lists of parts, of Vals and of labels that are handed in stay as they were, the room behind them too.
func TestHandedIn(t *testing.T) {
	wrong := busy()
	wrong[5].Vals[1] = "-"
	for _, l := range [][]api.Req{busy(), busy()[:5], busy()[2:4], busy()[:0], wrong} {
		for _, other := range [][]api.Req{busy(), busy()[:1], wrong, sel(notIn("beside", own("y", "x")...))} {
			labels := append(make([]api.Label, 0, 6), labels("app", "web", "kind", "1", "zone", "y")...)
			labels[:6][4] = api.Label{Key: "spare", Val: "room"}
			before, beforeOther, beforeLabels := wholeParts(l), wholeParts(other), slices.Clone(labels[:6])
			query.Check(l)
			query.CheckLabels(labels)
			query.Print(l)
			query.Match(l, labels)
			query.Solve(l)
			query.Implies(l, other)
			query.Implies(other, l)
			if !reflect.DeepEqual(wholeParts(l), before) || !reflect.DeepEqual(wholeParts(other), beforeOther) || !slices.Equal(labels[:6], beforeLabels) {
				t.Errorf("%s, %s and %q have become %s, %s and %q", show(before), show(beforeOther), beforeLabels, show(wholeParts(l)), show(wholeParts(other)), labels[:6])
			}
		}
	}
}

// P2: nothing is kept from call to call.
func TestAnew(t *testing.T) {
	text := "zone in (y,x,z),kind,kind notin (,0),!old,app=web,zone in (z,y)"
	l := busy()
	ask := func() {
		t.Helper()
		parses(t, text, api.OK, l...)
		solves(t, l, true, "app", "web", "kind", "1", "zone", "y")
		refutes(t, sel(there("a")), sel(not("b")), "a", "", "b", "")
		if s, e := query.Print(l); s != text || e != api.OK {
			t.Errorf("Print = %q, %d", s, e)
		}
	}
	ask()
	parts, _ := query.Parse(text)
	made, _, _ := query.Solve(l)
	_, more, _ := query.Implies(sel(there("a")), sel(not("b")))
	for _, r := range parts {
		for j := range r.Vals {
			r.Vals[j] = "spoilt"
		}
	}
	for i := range parts {
		parts[i].Key = "spoilt"
	}
	for _, l := range [][]api.Label{made[:cap(made)], more[:cap(more)]} {
		for i := range l {
			l[i] = api.Label{Key: "spoilt", Val: "spoilt"}
		}
	}
	// What came in other calls between is of no matter.
	parses(t, "a b", api.ErrSyntax)
	solves(t, sel(there("a"), not("a")), false)
	ask()
	// The selector as it is now, not as it was.
	l[0].Vals[0], l[5].Vals[1], l[2].Vals[0] = "z", "q", "5"
	solves(t, l, true, "app", "web", "kind", "", "zone", "z")
}
