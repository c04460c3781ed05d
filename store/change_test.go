package store_test

import (
	"fmt"
	"math"
	"reflect"
	"testing"

	"seneschal/api"
	"seneschal/store"
)

func isZero(o api.Object) bool {
	return reflect.DeepEqual(o, api.Object{})
}

// told is x as a text: lists without anything in them are the same, nil or not.
func told(x any) string {
	return fmt.Sprintf("%+v", x)
}

// object is one with a key and a document alone.
func object(k, doc string) api.Object {
	return api.Object{Key: key(k), Doc: doc}
}

// made lays o into s.
func made(t *testing.T, s *store.Store, o api.Object) api.Object {
	t.Helper()
	p, e := s.Create(o)
	if e != api.OK {
		t.Fatalf("Create of %v: %d", o.Key, e)
	}
	return p
}

// changed makes what is there with the key of o what o is.
func changed(t *testing.T, s *store.Store, o api.Object) api.Object {
	t.Helper()
	was, e := s.Get(o.Key, 0)
	if e != api.OK {
		t.Fatalf("Get of %v: %d", o.Key, e)
	}
	o.Rev = was.Rev
	p, e := s.Update(o)
	if e != api.OK {
		t.Fatalf("Update of %v: %d", o.Key, e)
	}
	return p
}

func deleted(t *testing.T, s *store.Store, k string) api.Object {
	t.Helper()
	o, e := s.Delete(key(k), 0)
	if e != api.OK {
		t.Fatalf("Delete of %s: %d", k, e)
	}
	return o
}

// full is a store with as many objects as there may be: of three kinds, in two spaces and without one.
func full(t *testing.T) *store.Store {
	t.Helper()
	s := store.New()
	for i := range 60 {
		made(t, s, object(fmt.Sprintf("%s/%s/n%d", texts("pods", "jobs", "nodes")[i%3], texts("one", "", "two", "")[i%4], i), "0"))
	}
	return s
}

// all is what can be asked of s, as a text.
func all(s *store.Store) string {
	l, e := s.Since(0)
	m, f := s.Since(s.Rev())
	told := told([]any{s.Rev(), l, e, m, f})
	for _, kind := range texts("pods", "jobs", "nodes", "spaces") {
		for rev := range s.Rev() + 2 {
			o, e := s.List(kind, "", rev)
			told += fmt.Sprintf("%+v %d\n", o, e)
		}
	}
	return told
}

// same asks that what is done changes nothing of s.
func same(t *testing.T, what string, s *store.Store, do func()) {
	t.Helper()
	before := all(s)
	do()
	if after := all(s); after != before {
		t.Errorf("%s: the store has become\n%s\nfrom\n%s", what, after, before)
	}
}

func refuses(t *testing.T, what string, s *store.Store, want api.Errno, do func() (api.Object, api.Errno)) {
	t.Helper()
	same(t, what, s, func() {
		t.Helper()
		if o, e := do(); e != want || !isZero(o) {
			t.Errorf("%s: %v, %d, want %d", what, o, e, want)
		}
	})
}

// is asks that o is answered, and that it is there.
func is(t *testing.T, what string, s *store.Store, o, want api.Object) {
	t.Helper()
	if told(o) != told(want) {
		t.Errorf("%s: %+v, want %+v", what, o, want)
	}
	if p, e := s.Get(want.Key, 0); e != api.OK || told(p) != told(want) {
		t.Errorf("Get behind %s: %+v, %d, want %+v", what, p, e, want)
	}
	if p, e := s.Get(want.Key, s.Rev()); e != api.OK || told(p) != told(want) {
		t.Errorf("Get of the last revision behind %s: %+v, %d, want %+v", what, p, e, want)
	}
}

// P36: Create has all of an object that is its maker's, and nothing else.
func TestCreate(t *testing.T) {
	s := store.New()
	if s.Rev() != 0 {
		t.Errorf("Rev of a new store: %d", s.Rev())
	}
	o := api.Object{Key: key("pods/one/a"), Labels: labels("a=1,b="), Owners: texts("u9", "u1", "u9"), Holds: texts("z", "a"), Doc: ` { "b" : [ 1 , true ] , "a" : "\t\"" } `}
	want := o
	want.Doc, want.Uid, want.Rev = `{"a":"\t\"","b":[1,true]}`, "u1", 1
	is(t, "Create", s, made(t, s, o), want)
	// What is the store's own is not taken from what is handed in.
	o.Name, o.Uid, o.Rev, o.Ending = "b", "mine", 77, true
	want.Name, want.Uid, want.Rev = "b", "u2", 2
	is(t, "Create with a Uid, a Rev and an end", s, made(t, s, o), want)
	o = object("pods//a", "null")
	o.Rev = -1
	want = object("pods//a", "null")
	want.Uid, want.Rev = "u3", 3
	is(t, "Create without a Space", s, made(t, s, o), want)
	// Keys are others, if one of their parts is.
	for i, k := range texts("nodes/one/a", "pods/two/a", "pods/one/c", "nodes//a", "one/pods/a", "a/one/pods") {
		want = object(k, "0")
		want.Uid, want.Rev = fmt.Sprintf("u%d", i+4), i+4
		is(t, "Create of "+k, s, made(t, s, object(k, "0")), want)
	}
	if s.Rev() != 9 {
		t.Errorf("Rev: %d", s.Rev())
	}
}

// P36: of one key there is one object; there are as many as there may be.
func TestCreateErrors(t *testing.T) {
	s := store.New()
	o := made(t, s, object("pods/one/a", "0"))
	create := func(what string, o api.Object, e api.Errno) {
		t.Helper()
		refuses(t, what, s, e, func() (api.Object, api.Errno) { return s.Create(o) })
	}
	create("the same", o, api.ErrTwice)
	create("the same key", object("pods/one/a", "1"), api.ErrTwice)
	create("the same key without a Doc", object("pods/one/a", ""), api.ErrSyntax)
	create("no name", object("pods/one/A", "0"), api.ErrName)
	s = full(t)
	create("one more", object("pods/one/z", "0"), api.ErrFull)
	create("one more of another kind", object("spaces//z", "0"), api.ErrFull)
	create("the first one", object("pods/one/n0", "0"), api.ErrTwice)
	create("the last one", object("nodes//n59", "0"), api.ErrTwice)
	create("one more that is wrong", object("pods/one/z", "00"), api.ErrSyntax)
	create("the first one, wrong", object("pods/one/n0", "{}}"), api.ErrSyntax)
	// Where one went there is a place for one.
	deleted(t, s, "nodes/two/n2")
	want := object("pods/one/z", "0")
	want.Uid, want.Rev = "u62", 62
	is(t, "Create where one went", s, made(t, s, object("pods/one/z", "0")), want)
	create("one more again", object("pods/one/y", "0"), api.ErrFull)
	create("the one that went", object("nodes/two/n2", "0"), api.ErrFull)
	// Updates make no more of them.
	changed(t, s, object("pods/one/z", "1"))
	create("one more behind an Update", object("pods/one/y", "0"), api.ErrFull)
	if e := s.Compact(s.Rev()); e != api.OK {
		t.Errorf("Compact: %d", e)
	}
	create("one more behind Compact", object("pods/one/y", "0"), api.ErrFull)
	create("one that is there behind Compact", object("pods/one/z", "0"), api.ErrTwice)
}

// P36: an object that was there before and is made again is another one.
func TestCreateAgain(t *testing.T) {
	s := store.New()
	o := object("pods/one/a", "0")
	o.Labels, o.Owners, o.Holds = labels("a=1"), texts("u1"), texts("h")
	made(t, s, o)
	o.Ending = true
	changed(t, s, o)
	deleted(t, s, "pods/one/a")
	want := object("pods/one/a", "5")
	want.Uid, want.Rev = "u4", 4
	is(t, "Create again", s, made(t, s, object("pods/one/a", "5")), want)
	deleted(t, s, "pods/one/a")
	s.Compact(5)
	want.Uid, want.Rev = "u6", 6
	is(t, "Create again behind Compact", s, made(t, s, object("pods/one/a", "5")), want)
}

// P36: Update changes what is the object's, and keeps its Uid.
func TestUpdate(t *testing.T) {
	s := store.New()
	o := object("pods/one/a", "0")
	o.Labels, o.Owners, o.Holds = labels("a=1,b=2"), texts("u1", "u2"), texts("h", "i")
	made(t, s, o)
	other := made(t, s, object("pods/two/a", "7"))
	update := func(what string, o, want api.Object) {
		t.Helper()
		p, e := s.Update(o)
		if e != api.OK {
			t.Errorf("%s: %d", what, e)
		}
		want.Uid, want.Ending = "u1", o.Ending
		is(t, what, s, p, want)
		if s.Rev() != want.Rev {
			t.Errorf("%s: Rev %d, want %d", what, s.Rev(), want.Rev)
		}
	}
	o = api.Object{Key: key("pods/one/a"), Labels: labels("c="), Owners: texts("u7"), Holds: texts("z"), Uid: "mine", Rev: 1, Doc: `{"b":1, "a":2}`}
	want := o
	want.Doc, want.Rev = `{"a":2,"b":1}`, 3
	update("all new", o, want)
	o = object("pods/one/a", "[ ]")
	o.Rev = 3
	want = object("pods/one/a", "[]")
	want.Rev = 4
	update("nothing left", o, want)
	o.Rev, want.Rev = 4, 5
	update("the same again", o, want)
	o.Rev, want.Rev, o.Ending = 5, 6, true
	update("ending", o, want)
	o.Rev, want.Rev, o.Doc, want.Doc = 6, 7, "1", "1"
	update("ending still", o, want)
	is(t, "the other one", s, other, api.Object{Key: key("pods/two/a"), Uid: "u2", Rev: 2, Doc: "7"})
}

// P36: the errors of Update, in their order.
func TestUpdateErrors(t *testing.T) {
	s := store.New()
	update := func(what string, o api.Object, rev int, e api.Errno) {
		t.Helper()
		o.Rev = rev
		refuses(t, what, s, e, func() (api.Object, api.Errno) { return s.Update(o) })
	}
	o := object("pods/one/a", "0")
	update("nothing there", o, 0, api.ErrNone)
	made(t, s, object("pods/one/b", "0"))
	made(t, s, o)
	changed(t, s, o)
	o.Uid = "u2"
	for _, rev := range []int{0, -1, 1, 2, 4, -3, 3 + 1<<32, math.MaxInt, math.MinInt} {
		update(fmt.Sprintf("rev %d", rev), o, rev, api.ErrRev)
	}
	for _, k := range texts("pods/two/a", "pods//a", "jobs/one/a", "pods/one/c") {
		update(k, object(k, "0"), 3, api.ErrNone)
		update(k+" without a Doc", object(k, ""), 3, api.ErrSyntax)
	}
	update("no name", object("pods/one/-", "0"), 3, api.ErrName)
	update("no Doc, and another revision", object("pods/one/a", ""), 1, api.ErrSyntax)
	o.Ending = true
	changed(t, s, o)
	update("not ending any more", object("pods/one/a", "0"), 4, api.ErrArg)
	update("not ending any more, of another revision", object("pods/one/a", "0"), 3, api.ErrRev)
	update("not ending any more, rev 0", object("pods/one/a", "0"), 0, api.ErrRev)
	update("not ending any more, without a Doc", object("pods/one/a", "}"), 4, api.ErrSyntax)
	deleted(t, s, "pods/one/a")
	update("gone", o, 4, api.ErrNone)
	update("gone, rev of the end", o, 5, api.ErrNone)
	update("gone, rev 0", o, 0, api.ErrNone)
	// One that is there again is not ending.
	made(t, s, o)
	update("there again, another revision", object("pods/one/a", "1"), 4, api.ErrRev)
	changed(t, s, object("pods/one/a", "1"))
}

// P36: of two updates with one revision the second one is refused.
func TestUpdateTwice(t *testing.T) {
	s := store.New()
	o := made(t, s, object("pods/one/a", "0"))
	a, b := o, o
	a.Doc, b.Doc = "1", "2"
	if p, e := s.Update(a); e != api.OK || p.Rev != 2 || p.Doc != "1" {
		t.Errorf("first Update: %v, %d", p, e)
	}
	refuses(t, "second Update", s, api.ErrRev, func() (api.Object, api.Errno) { return s.Update(b) })
	b.Rev = 2
	if p, e := s.Update(b); e != api.OK || p.Rev != 3 || p.Doc != "2" {
		t.Errorf("third Update: %v, %d", p, e)
	}
}

// P36: Delete answers the object as it was, with the revision of its end.
func TestDelete(t *testing.T) {
	s := store.New()
	o := object("pods/one/a", "{ }")
	o.Labels, o.Owners, o.Holds = labels("a=1"), texts("u9"), texts("h")
	made(t, s, o)
	made(t, s, object("pods/one/b", "0"))
	o.Ending = true
	changed(t, s, o)
	want := o
	want.Doc, want.Uid, want.Rev = "{}", "u1", 4
	if p, e := s.Delete(key("pods/one/a"), 3); e != api.OK || told(p) != told(want) {
		t.Errorf("Delete: %+v, %d, want %+v", p, e, want)
	}
	if p, e := s.Get(key("pods/one/a"), 0); e != api.ErrNone || !isZero(p) {
		t.Errorf("Get: %v, %d", p, e)
	}
	want = object("pods/one/b", "0")
	want.Uid, want.Rev = "u2", 5
	if p, e := s.Delete(key("pods/one/b"), 0); e != api.OK || told(p) != told(want) {
		t.Errorf("Delete: %+v, %d, want %+v", p, e, want)
	}
	if s.Rev() != 5 {
		t.Errorf("Rev: %d", s.Rev())
	}
}

// P36: the errors of Delete, in their order.
func TestDeleteErrors(t *testing.T) {
	s := store.New()
	del := func(what, k string, rev int, e api.Errno) {
		t.Helper()
		refuses(t, what, s, e, func() (api.Object, api.Errno) { return s.Delete(key(k), rev) })
	}
	del("nothing there", "pods/one/a", 0, api.ErrNone)
	made(t, s, object("pods/one/b", "0"))
	made(t, s, object("pods/one/a", "0"))
	changed(t, s, object("pods/one/a", "1"))
	for _, rev := range []int{-1, 1, 2, 4, -3, math.MaxInt, math.MinInt} {
		del(fmt.Sprintf("rev %d", rev), "pods/one/a", rev, api.ErrRev)
		del(fmt.Sprintf("not there, rev %d", rev), "pods//a", rev, api.ErrNone)
		del(fmt.Sprintf("no name, rev %d", rev), "pods/one/", rev, api.ErrName)
	}
	deleted(t, s, "pods/one/a")
	del("gone", "pods/one/a", 0, api.ErrNone)
	del("gone, rev ahead of the end", "pods/one/a", 3, api.ErrNone)
	del("gone, rev of the end", "pods/one/a", 4, api.ErrNone)
}
