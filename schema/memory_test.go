package schema_test

import (
	"reflect"
	"runtime"
	"slices"
	"strings"
	"testing"
	"unsafe"

	"seneschal/api"
	"seneschal/schema"
)

func within(s, whole string) bool {
	if s == "" || whole == "" {
		return false
	}
	at, begin := uintptr(unsafe.Pointer(unsafe.StringData(s))), uintptr(unsafe.Pointer(unsafe.StringData(whole)))
	return begin <= at && at < begin+uintptr(len(whole))
}

func shares(s, whole string) bool {
	return within(s, whole) || within(whole, s)
}

// busy is a schema that has something of all kinds, in memory that nobody else has, with room behind its lists.
func busy() []api.Part {
	own := func(l ...string) []string {
		out := make([]string, 0, len(l)+3)
		for _, s := range l {
			out = append(out, strings.Clone(s))
		}
		copy(out[len(l):cap(out)], []string{"spare", "room", "behind"})
		return out
	}
	fields := append(make([]api.Field, 0, 6), field(strings.Clone("/a"), 1), field(strings.Clone("b"), 2), field(strings.Clone("c"), 3))
	fields[:6][5] = field("spare", 77)
	s := append(make([]api.Part, 0, 7),
		api.Part{Kind: api.KObject, Fields: fields, Need: own("z", "/a", "x")},
		api.Part{Kind: api.KText, Most: 3, Enum: own(`"abc"`, `"d"`), Default: strings.Clone(`"abc"`)},
		api.Part{Kind: api.KList, Items: 3, Most: 2, Default: strings.Clone("[{}]")},
		api.Part{Kind: api.KObject, Fields: []api.Field{field(strings.Clone("n"), 4)}, Extra: true},
		api.Part{Kind: api.KNumber, Least: 1, Most: 5, Default: strings.Clone("3")},
	)
	s[:7][6].Kind = 77
	return s
}

func docsOfBusy() []string {
	return []string{"{}", `{"/a":"d","b":[],"c":{"n":5}}`, `{"/a":"abcdef","b":[{"n":9},1,{}],"c":{"m":1},"q":{"r":1}}`, "null", `"abc"`, "[1,2]", "3"}
}

// P2: what is told is new memory.
func TestMemory(t *testing.T) {
	for _, doc := range docsOfBusy() {
		s, doc := busy(), strings.Clone(doc)
		given := []string{doc}
		for _, p := range s {
			given = append(append(append(given, p.Default), p.Need...), p.Enum...)
			for _, f := range p.Fields {
				given = append(given, f.Name)
			}
		}
		filled, e := schema.Fill(s, doc)
		pruned, f := schema.Prune(s, doc)
		faults, g := schema.Faults(s, doc)
		if e != api.OK || f != api.OK || g != api.OK {
			t.Errorf("of %s: %d, %d, %d", doc, e, f, g)
		}
		told := []string{filled, pruned}
		for _, f := range faults {
			told = append(told, f.Path)
		}
		for _, s := range told {
			if slices.ContainsFunc(given, func(g string) bool { return shares(s, g) }) {
				t.Errorf("of %s: %s shares memory with what was handed in", doc, s)
			}
		}
	}
}

// P2: lists and parts that are handed in stay as they were, the room behind them too.
func TestHandedIn(t *testing.T) {
	whole := func(s []api.Part) []api.Part {
		s = slices.Clone(s[:cap(s)])
		for i, p := range s {
			s[i].Fields = slices.Clone(p.Fields[:cap(p.Fields)])
			s[i].Need = slices.Clone(p.Need[:cap(p.Need)])
			s[i].Enum = slices.Clone(p.Enum[:cap(p.Enum)])
		}
		return s
	}
	wrong := busy()
	wrong[4].Default = "9"
	twice := busy()
	twice[0].Fields[2].Name = "b"
	for _, s := range [][]api.Part{busy(), wrong, twice, busy()[:4], busy()[1:], busy()[2:3]} {
		before := whole(s)
		for _, doc := range append(docsOfBusy(), "x") {
			schema.Check(s)
			schema.Faults(s, doc)
			schema.Fill(s, doc)
			schema.Prune(s, doc)
		}
		if !reflect.DeepEqual(whole(s), before) {
			t.Errorf("%s has become %s", show(before), show(whole(s)))
		}
	}
}

// P2: nothing is kept from call to call.
func TestAnew(t *testing.T) {
	doc := `{"/a":"abcdef","b":[{"n":9},1,{}],"c":{"m":1},"q":{"r":1}}`
	want := []api.Fault{at("/z", api.ErrNone), at("/x", api.ErrNone), at("/q", api.ErrName), at("/~1a", api.ErrInvalid), at("/~1a", api.ErrLarge), at("/b", api.ErrLarge), at("/b/0/n", api.ErrLarge), at("/b/1", api.ErrKind)}
	s := busy()
	first, _ := schema.Faults(s, doc)
	room := first[:cap(first)]
	for i := range room {
		room[i] = at("spoilt", -1)
	}
	ask := func() {
		t.Helper()
		finds(t, s, doc, want...)
		fills(t, s, doc, `{"/a":"abcdef","b":[{"n":9},1,{"n":3}],"c":{"m":1,"n":3},"q":{"r":1}}`, api.OK)
		prunes(t, s, doc, `{"/a":"abcdef","b":[{"n":9},1,{}],"c":{"m":1}}`, api.OK)
	}
	ask()
	for i := range room {
		if room[i] != at("spoilt", -1) {
			t.Errorf("a list that was answered has become %v", room)
		}
	}
	// What came in other calls between is of no matter.
	fills(t, blown(), "{}", "", api.ErrLarge)
	checks(t, nil, api.ErrArg)
	finds(t, shape(aBool()), "1", at("", api.ErrKind))
	ask()
	// The schema as it is now, not as it was.
	s[4].Default, s[4].Most, s[0].Extra = "4", 9, true
	finds(t, s, doc, at("/z", api.ErrNone), at("/x", api.ErrNone), at("/~1a", api.ErrInvalid), at("/~1a", api.ErrLarge), at("/b", api.ErrLarge), at("/b/1", api.ErrKind))
	fills(t, s, doc, `{"/a":"abcdef","b":[{"n":9},1,{"n":4}],"c":{"m":1,"n":4},"q":{"r":1}}`, api.OK)
	prunes(t, s, doc, `{"/a":"abcdef","b":[{"n":9},1,{}],"c":{"m":1},"q":{"r":1}}`, api.OK)
}

// P1: a schema that is refused, or what can't be told, takes no memory for each time that a long name would come.
func TestLongNames(t *testing.T) {
	name := strings.Repeat("n", 1<<20)
	needs := shape(aBool(), withDefault(aList(2), row(190, "{}")), withNeed(anObject(), name, name, name, name))
	comes := shape(aList(1), anObject(field(name, 2)), withDefault(aBool(), "true"))
	var before, behind runtime.MemStats
	runtime.ReadMemStats(&before)
	e := schema.Check(needs)
	made, f := schema.Fill(comes, row(90, "{}"))
	runtime.ReadMemStats(&behind)
	if much := behind.TotalAlloc - before.TotalAlloc; e != api.ErrInvalid || made != "" || f != api.ErrLarge || much > 1<<20 {
		t.Errorf("Check = %d, Fill = %.80q, %d, with %d bytes of memory", e, made, f, much)
	}
}

// P18, P20: names of Fields are not looked at, so one that no document has comes with its Default all the same.
func TestStrangeNames(t *testing.T) {
	s := shape(anObject(field("\xff", 1), field("b", 1)), withDefault(aNumber(), "1"))
	if made, e := schema.Fill(s, "{}"); made != "{\"b\":1,\"\xff\":1}" || e != api.OK {
		t.Errorf("Fill = %q, %d", made, e)
	}
	finds(t, s, `{"c":1}`, at("/c", api.ErrName))
	prunes(t, s, `{"c":1,"b":2}`, `{"b":2}`, api.OK)
}
