package store_test

import (
	"fmt"
	"slices"
	"strings"
	"testing"

	"seneschal/api"
	"seneschal/store"
)

// mistake is a text that is no name, and what is told of it.
type mistake struct {
	s string
	e api.Errno
}

// mistakes are of all kinds, those at the limits among them; the empty text is not among them, since a Space may be empty.
func mistakes() []mistake {
	return []mistake{
		{"-", api.ErrName},
		{"-a", api.ErrName},
		{"a-", api.ErrName},
		{"A", api.ErrName},
		{"a.b", api.ErrName},
		{"a/b", api.ErrName},
		{"a b", api.ErrName},
		{" ", api.ErrName},
		{"*", api.ErrName},
		{"a\x00", api.ErrName},
		{"\xff", api.ErrName},
		{"é", api.ErrName},
		{long(62) + "-", api.ErrName},
		{long(64), api.ErrLarge},
		{strings.Repeat("-", 64), api.ErrLarge},
		{strings.Repeat("-", 1000), api.ErrLarge},
	}
}

// long is a name of n bytes, if there may be one.
func long(n int) string {
	return strings.Repeat("a", n-1) + "9"
}

// key reads a text like `pods/one/a`, or `pods//a` without a Space.
func key(s string) api.Key {
	l := append(strings.Split(s, "/"), "", "")
	return api.Key{Kind: l[0], Space: l[1], Name: l[2]}
}

func texts(l ...string) []string { return l }

// labels reads a text like `a=1,b=`.
func labels(s string) []api.Label {
	var l []api.Label
	for _, one := range strings.Split(s, ",") {
		if k, v, is := strings.Cut(one, "="); is {
			l = append(l, api.Label{Key: k, Val: v})
		}
	}
	return l
}

// wide is a document of n bytes.
func wide(n int) string {
	return "[" + strings.Repeat(" ", n-2) + "]"
}

// deep is a document with n lists in one another.
func deep(n int) string {
	return strings.Repeat("[", n) + strings.Repeat("]", n)
}

// many is a document with n values.
func many(n int) string {
	return "[0" + strings.Repeat(",0", n-2) + "]"
}

// good is an object with as much of everything as there may be.
func good() api.Object {
	o := api.Object{Key: api.Key{Kind: long(63), Space: long(63), Name: long(63)}, Doc: wide(2000)}
	for i := range 10 {
		o.Labels = append(o.Labels, api.Label{Key: fmt.Sprintf("k%d", i), Val: long(63)})
	}
	o.Owners = texts("a", "b", "a", long(63))
	o.Holds = texts("a", "b", "c", long(63))
	return o
}

// spoil does something to an object of which is told e.
type spoil struct {
	what string
	e    api.Errno
	do   func(o *api.Object)
}

// keySpoils are in the order in which they are told.
func keySpoils() []spoil {
	var l []spoil
	for _, m := range append(mistakes(), mistake{"", api.ErrName}) {
		l = append(l, spoil{fmt.Sprintf("Kind %q", m.s), m.e, func(o *api.Object) { o.Kind = m.s }})
	}
	for _, m := range mistakes() {
		l = append(l, spoil{fmt.Sprintf("Space %q", m.s), m.e, func(o *api.Object) { o.Space = m.s }})
	}
	for _, m := range append(mistakes(), mistake{"", api.ErrName}) {
		l = append(l, spoil{fmt.Sprintf("Name %q", m.s), m.e, func(o *api.Object) { o.Name = m.s }})
	}
	return l
}

func labelSpoils() []spoil {
	l := []spoil{{"11 labels", api.ErrLarge, func(o *api.Object) {
		o.Labels = append(slices.Clone(o.Labels), api.Label{Key: "z", Val: "z"})
	}}}
	label := func(what string, e api.Errno, i int, key, val string) {
		l = append(l, spoil{fmt.Sprintf("label %d with %s", i, what), e, func(o *api.Object) {
			o.Labels[i] = api.Label{Key: key, Val: val}
		}})
	}
	for _, i := range []int{0, 4, 9} {
		label("a bad Key", api.ErrName, i, "-", "-")
		label("a long Key", api.ErrLarge, i, strings.Repeat("a", 65), "-")
		label("an empty Key", api.ErrName, i, "", "")
		label("a bad Val", api.ErrName, i, "a", "-")
		label("a long Val", api.ErrLarge, i, "a", long(64))
		if i > 0 {
			label("a Key that is there", api.ErrArg, i, fmt.Sprintf("k%d", i-1), "")
			label("a Key that doesn't rise", api.ErrArg, i, "a", "")
		}
	}
	return l
}

func restSpoils() []spoil {
	l := []spoil{
		{"5 owners", api.ErrLarge, func(o *api.Object) { o.Owners = append(slices.Clone(o.Owners), "e") }},
		{"5 holds", api.ErrLarge, func(o *api.Object) { o.Holds = append(slices.Clone(o.Holds), "e") }},
	}
	for i := range 4 {
		for _, m := range append(mistakes(), mistake{"", api.ErrName}) {
			l = append(l, spoil{fmt.Sprintf("owner %d %q", i, m.s), m.e, func(o *api.Object) { o.Owners[i] = m.s }})
		}
	}
	for i := range 4 {
		for _, m := range append(mistakes(), mistake{"", api.ErrName}) {
			l = append(l, spoil{fmt.Sprintf("hold %d %q", i, m.s), m.e, func(o *api.Object) { o.Holds[i] = m.s }})
		}
	}
	for i := range 4 {
		for j := range i {
			l = append(l, spoil{fmt.Sprintf("holds %d and %d the same", j, i), api.ErrTwice, func(o *api.Object) { o.Holds[i] = o.Holds[j] }})
		}
	}
	for _, d := range []struct {
		doc string
		e   api.Errno
	}{
		{wide(2001), api.ErrLarge},
		{strings.Repeat("x", 2001), api.ErrLarge},
		{many(201), api.ErrLarge},
		{deep(11), api.ErrDeep},
		{`{"a":1,"b":2,"a"`, api.ErrTwice},
		{"01", api.ErrSyntax},
		{"{", api.ErrSyntax},
		{"{} {}", api.ErrSyntax},
		{"", api.ErrSyntax},
	} {
		l = append(l, spoil{fmt.Sprintf("Doc %.20q", d.doc), d.e, func(o *api.Object) { o.Doc = d.doc }})
	}
	return l
}

// spoils are in the order in which they are told.
func spoils() []spoil {
	return slices.Concat(keySpoils(), labelSpoils(), restSpoils())
}

// checks asks for what is wrong with o in each way that there is to ask, and that nothing comes of it.
func checks(t *testing.T, what string, o api.Object, e api.Errno) {
	t.Helper()
	if f := store.CheckObject(o); f != e {
		t.Errorf("CheckObject, %s: %d, want %d", what, f, e)
	}
	s := store.New()
	p, f := s.Create(o)
	if f != e || (e != api.OK) != isZero(p) {
		t.Errorf("Create, %s: %v, %d, want %d", what, p, f, e)
	}
	// What is there and what is not: what is wrong with the object itself comes ahead of it.
	p, f = s.Update(o)
	if want := map[bool]api.Errno{true: api.ErrRev, false: e}[e == api.OK]; f != want || !isZero(p) {
		t.Errorf("Update, %s: %v, %d, want %d", what, p, f, want)
	}
	if s.Rev() != map[bool]int{true: 1}[e == api.OK] {
		t.Errorf("%s: Rev %d", what, s.Rev())
	}
}

// P35: an object as it must be, with as much of everything as there may be, and with as little.
func TestCheckObject(t *testing.T) {
	checks(t, "all that there may be", good(), api.OK)
	checks(t, "next to nothing", api.Object{Key: key("a//b"), Doc: "0"}, api.OK)
	checks(t, "an empty value", api.Object{Key: key("a//b"), Labels: labels("a=,b="), Doc: "0"}, api.OK)
	checks(t, "nothing", api.Object{}, api.ErrName)
	// Nothing else of it is looked at: not what is no name, not what can't be a revision.
	o := good()
	o.Uid, o.Rev, o.Ending = "No Uid\xff", -1, true
	checks(t, "a strange Uid, Rev and end", o, api.OK)
	for _, doc := range []string{wide(2000), many(200), deep(10), "null", ` { "a" : [ ] } `} {
		o.Doc = doc
		checks(t, fmt.Sprintf("Doc %.20q", doc), o, api.OK)
	}
	// Owners may be there twice, and may be holds, too.
	o.Owners, o.Holds = texts("a", "a", "a", "a"), texts("a")
	checks(t, "an owner four times", o, api.OK)
}

// P35: each error, and of each two that apply together the first one.
func TestCheckObjectErrors(t *testing.T) {
	l := spoils()
	for i, a := range l {
		o := good()
		a.do(&o)
		checks(t, a.what, o, a.e)
		for j := i + 1; j < len(l); j += 1 + j%3 {
			o := good()
			l[j].do(&o)
			a.do(&o)
			if e := store.CheckObject(o); e != a.e {
				t.Errorf("%s and %s: %d, want %d", a.what, l[j].what, e, a.e)
			}
		}
	}
}

// P35: all names of Holds are looked at ahead of whether one is there twice.
func TestHoldsTwice(t *testing.T) {
	o := good()
	o.Holds = texts("a", "a", "-")
	checks(t, "twice, then no name", o, api.ErrName)
	o.Holds = texts("a", "a", long(64))
	checks(t, "twice, then too long", o, api.ErrLarge)
	o.Holds = texts("a", "a", "a", "a", "a")
	checks(t, "five times", o, api.ErrLarge)
	o.Holds, o.Doc = texts("a", "b", "c", "a"), ""
	checks(t, "twice, and no Doc", o, api.ErrTwice)
}

// P35: what is wrong with a key, in each way that there is to ask.
func TestCheckKey(t *testing.T) {
	ask := func(what string, k api.Key, e api.Errno) {
		t.Helper()
		if f := store.CheckKey(k); f != e {
			t.Errorf("CheckKey, %s: %d, want %d", what, f, e)
		}
		s := full(t)
		none := e
		if e == api.OK {
			none = api.ErrNone
		}
		if o, f := s.Get(k, 0); f != none || !isZero(o) {
			t.Errorf("Get, %s: %v, %d, want %d", what, o, f, none)
		}
		if o, f := s.Delete(k, 0); f != none || !isZero(o) {
			t.Errorf("Delete, %s: %v, %d, want %d", what, o, f, none)
		}
		if e != api.OK {
			// What is wrong with the key comes ahead of what is wrong with the revision.
			if _, f := s.Get(k, 99); f != e {
				t.Errorf("Get, %s, 99: %d, want %d", what, f, e)
			}
			if _, f := s.Delete(k, -1); f != e {
				t.Errorf("Delete, %s, -1: %d, want %d", what, f, e)
			}
		}
	}
	ask("of 63 bytes each", good().Key, api.OK)
	ask("without a Space", key("z//z"), api.OK)
	ask("with one", key("z/z/z"), api.OK)
	ask("empty", api.Key{}, api.ErrName)
	ask("a Space alone", key("/z/"), api.ErrName)
	l := keySpoils()
	for i, a := range l {
		o := good()
		a.do(&o)
		ask(a.what, o.Key, a.e)
		for _, b := range l[i+1:] {
			o := good()
			b.do(&o)
			a.do(&o)
			if e := store.CheckKey(o.Key); e != a.e {
				t.Errorf("%s and %s: %d, want %d", a.what, b.what, e, a.e)
			}
		}
	}
}
