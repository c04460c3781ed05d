package fields_test

import (
	"reflect"
	"slices"
	"strconv"
	"strings"
	"testing"
	"unsafe"

	"seneschal/api"
	"seneschal/fields"
)

func within(s, whole string) bool {
	if s == "" || whole == "" {
		return false
	}
	at, begin := uintptr(unsafe.Pointer(unsafe.StringData(s))), uintptr(unsafe.Pointer(unsafe.StringData(whole)))
	return begin <= at && at < begin+uintptr(len(whole))
}

func shares(s, whole string) bool {
	return within(s, whole) || within(whole, s)
}

// ownPaths is texts in memory that nobody else has, with room behind the list.
func ownPaths(l ...string) []string {
	out := make([]string, 0, len(l)+2)
	for _, s := range l {
		out = append(out, strings.Clone(s))
	}
	copy(out[len(l):cap(out)], []string{"/spare", "/room"})
	return out
}

// busy is several managers with several parts each, in memory that nobody else has, with room behind all lists.
func busy() []api.Owned {
	l := append(make([]api.Owned, 0, 6),
		owned(strings.Clone("kit"), ownPaths("/a/b", "/c", "/d")...),
		owned(strings.Clone("ops"), ownPaths("/a/b", "/e/f", "/g/h", "/i")...),
		owned(strings.Clone("zoo"), ownPaths("/e", "/i")...))
	for i := range l {
		l[i].Paths = ownPaths(l[i].Paths...)
	}
	l[:6][4] = owned("spare", "/room")
	return l
}

const busyLive = `{"a":{"b":1},"c":2,"d":3,"e":{"f":4},"g":{"h":5},"i":6}`

func whole(l []api.Owned) []api.Owned {
	l = slices.Clone(l[:cap(l)])
	for i, o := range l {
		l[i].Paths = slices.Clone(o.Paths[:cap(o.Paths)])
	}
	return l
}

func textsOf(l []api.Owned) []string {
	var out []string
	for _, o := range l {
		out = append(append(out, o.Manager), o.Paths...)
	}
	return out
}

type asked struct {
	manager, want string
	force         bool
}

// asks is what is asked of busy: without conflicts, with some, and by force.
func asks() []asked {
	var l []asked
	for _, manager := range []string{"kit", "new", "zoo"} {
		for _, want := range []string{"{}", `{"x":{"y":1},"z":[]}`, `{"a":{"b":1},"i":6}`, `{"a":{"b":2},"e":{"f":4,"j":0},"g":7,"i":{"k":1}}`, `{"a":null,"c":null,"d":null,"e":null,"g":null,"i":null}`} {
			l = append(l, asked{manager, want, false}, asked{manager, want, true})
		}
	}
	return l
}

// P2: what is told is new memory, of texts too.
func TestMemory(t *testing.T) {
	told, conflicts := 0, 0
	for _, a := range asks() {
		l, live, manager, want := busy(), strings.Clone(busyLive), strings.Clone(a.manager), strings.Clone(a.want)
		made, then, bad, e := fields.Apply(live, l, manager, want, a.force)
		leaves, f := fields.Leaves(want)
		if e != api.OK && e != api.ErrConflict || f != api.OK {
			t.Errorf("%v: %d, %d", a, e, f)
		}
		given, out := append(textsOf(l), live, manager, want), slices.Concat(textsOf(then), bad, leaves, []string{made})
		for i, s := range out {
			if slices.ContainsFunc(slices.Concat(given, out[:i]), func(g string) bool { return shares(s, g) }) {
				t.Errorf("%v: %s shares memory with what was handed in, or with another one that is told", a, s)
			}
		}
		told += len(then)
		conflicts += len(bad)
	}
	if told < 30 || conflicts < 10 {
		t.Errorf("too few to tell anything: %d told, %d conflicts", told, conflicts)
	}
}

// P2: no two lists of an answer share memory, nor any of them with what was handed in, the room behind them included.
func TestListsApart(t *testing.T) {
	for _, a := range asks() {
		l := busy()
		before := whole(l)
		_, then, bad, _ := fields.Apply(busyLive, l, a.manager, a.want, a.force)
		spoil := func(list []string) {
			for j := range list[:cap(list)] {
				list[:cap(list)][j] = "spoilt"
			}
		}
		for i := range then {
			for j, o := range then {
				if room := o.Paths[:cap(o.Paths)]; j >= i && slices.Contains(room, "spoilt") {
					t.Errorf("%v: list %d shares memory with one ahead of it", a, j)
				}
			}
			spoil(then[i].Paths)
		}
		spoil(bad)
		room := then[:cap(then)]
		for i := range room {
			room[i] = owned("spoilt", "spoilt")
		}
		if !reflect.DeepEqual(whole(l), before) {
			t.Errorf("%v: what was handed in has become %v", a, whole(l))
		}
	}
}

// P2: lists of who has which parts that are handed in stay as they were, the room behind them too.
func TestHandedIn(t *testing.T) {
	wrong := busy()
	wrong[2].Paths[1] = "x"
	for _, l := range [][]api.Owned{busy(), busy()[:1], busy()[1:], busy()[1:2], busy()[:0], wrong, busy()[:6]} {
		before := whole(l)
		for _, a := range asks() {
			fields.Check(l)
			fields.Apply(busyLive, l, a.manager, a.want, a.force)
			fields.Apply("{}", l, a.manager, a.want, a.force)
			fields.Apply(busyLive, l, "-", a.want, a.force)
		}
		if !reflect.DeepEqual(whole(l), before) {
			t.Errorf("%v has become %v", before, whole(l))
		}
	}
}

// P2: nothing is kept from call to call.
func TestAnew(t *testing.T) {
	l := busy()
	want := `{"a":{"b":2},"i":6,"x":1}`
	made := `{"a":{"b":2},"e":{"f":4},"g":{"h":5},"i":6,"x":1}`
	ask := func() {
		t.Helper()
		hasLeaves(t, busyLive, "/a/b", "/c", "/d", "/e/f", "/g/h", "/i")
		checks(t, l, api.OK)
		conflicts(t, busyLive, l, "kit", want, "/a/b")
		applies(t, busyLive, l, "kit", want, true, made, owned("kit", "/a/b", "/i", "/x"), owned("ops", "/e/f", "/g/h", "/i"), owned("zoo", "/e", "/i"))
	}
	ask()
	leaves, _ := fields.Leaves(busyLive)
	_, then, _, _ := fields.Apply(busyLive, l, "kit", want, true)
	_, _, bad, _ := fields.Apply(busyLive, l, "kit", want, false)
	lists := [][]string{leaves, bad}
	for _, o := range then {
		lists = append(lists, o.Paths)
	}
	for _, list := range lists {
		for i := range list[:cap(list)] {
			list[:cap(list)][i] = "spoilt"
		}
	}
	ask()
	for _, list := range lists {
		if slices.ContainsFunc(list[:cap(list)], func(s string) bool { return s != "spoilt" }) {
			t.Errorf("a list that was answered has become %q", list[:cap(list)])
		}
	}
	// What came in other calls between is of no matter.
	fails(t, "x", l, "kit", want, api.ErrSyntax)
	both(t, "{}", nil, "kit", `{"b":1}`, `{"b":1}`, owned("kit", "/b"))
	ask()
	// Who has which parts as it is now, not as it was.
	l[1].Manager, l[1].Paths[0], l[0].Paths[2] = "opt", "/a/c", "/j"
	both(t, busyLive, l, "kit", want, `{"a":{"b":2},"d":3,"e":{"f":4},"g":{"h":5},"i":6,"x":1}`, owned("kit", "/a/b", "/i", "/x"), owned("opt", "/a/c", "/e/f", "/g/h", "/i"), owned("zoo", "/e", "/i"))
}

// P1: there may be any number of pointers, far more than values.
func TestManyPaths(t *testing.T) {
	var had, others []string
	for i := range 200000 {
		had = append(had, "/h"+strconv.Itoa(i+1000000))
		others = append(others, "/o"+strconv.Itoa(i+1000000))
	}
	l := list(owned("kit", had...), owned("ops", others...))
	checks(t, l, api.OK)
	both(t, `{"h1000001":1,"o1000002":2}`, l, "kit", `{"x":3}`, `{"o1000002":2,"x":3}`, owned("kit", "/x"), owned("ops", others...))
	conflicts(t, `{"h1000001":1,"o1000002":2}`, l, "kit", `{"o1000002":3,"o1000003":{"a":1},"o1":2}`, "/o1000002", "/o1000003/a")
	both(t, `{"h1000001":1,"o1000002":2}`, l, "ops", "{}", `{"h1000001":1}`, owned("kit", had...))
}

// P1: what is much too long is looked at once, and not for each leaf anew.
func TestLongPaths(t *testing.T) {
	long := "/" + strings.Repeat("~0~1", 1<<18)
	l := list(owned("kit", long), owned("ops", long+"x"))
	checks(t, l, api.OK)
	both(t, row(100, 150, "1"), l, "kit", row(100, 190, "2"), row(100, 190, "2"), owned("kit", rowPaths(100, 190)...), owned("ops", long+"x"))
	checks(t, list(owned("kit", long+"~")), api.ErrForm)
	checks(t, list(owned(long, "/a")), api.ErrLarge)
	fails(t, "{}", l, long, "{}", api.ErrLarge)
}
