package fields_test

import (
	"slices"
	"strconv"
	"strings"
	"testing"

	"seneschal/api"
	"seneschal/fields"
)

func sameOwned(a, b []api.Owned) bool {
	return slices.EqualFunc(a, b, func(o, p api.Owned) bool { return o.Manager == p.Manager && slices.Equal(o.Paths, p.Paths) })
}

func applies(t *testing.T, live string, l []api.Owned, manager, want string, force bool, made string, then ...api.Owned) {
	t.Helper()
	s, has, bad, e := fields.Apply(live, l, manager, want, force)
	if s != made || !sameOwned(has, then) || len(bad) != 0 || e != api.OK {
		t.Errorf("Apply(%.200q, %.200q, %q, %.200q, %v) = %.200q, %.200q, %q, %d, want %.200q, %.200q", live, l, manager, want, force, s, has, bad, e, made, then)
	}
}

// both asks for what comes without force and with it, where there are no conflicts.
func both(t *testing.T, live string, l []api.Owned, manager, want, made string, then ...api.Owned) {
	t.Helper()
	applies(t, live, l, manager, want, false, made, then...)
	applies(t, live, l, manager, want, true, made, then...)
}

func conflicts(t *testing.T, live string, l []api.Owned, manager, want string, leaves ...string) {
	t.Helper()
	s, has, bad, e := fields.Apply(live, l, manager, want, false)
	if s != "" || len(has) != 0 || !slices.Equal(bad, leaves) || e != api.ErrConflict {
		t.Errorf("Apply(%.200q, %.200q, %q, %.200q, false) = %.200q, %.200q, %q, %d, want ErrConflict of %q", live, l, manager, want, s, has, bad, e, leaves)
	}
}

func failsWith(t *testing.T, live string, l []api.Owned, manager, want string, force bool, e api.Errno) {
	t.Helper()
	s, has, bad, f := fields.Apply(live, l, manager, want, force)
	if s != "" || len(has) != 0 || len(bad) != 0 || f != e {
		t.Errorf("Apply(%.80q, %.200q, %q, %.80q, %v) = %.80q, %.80q, %.80q, %d, want %d", live, l, manager, want, force, s, has, bad, f, e)
	}
}

func fails(t *testing.T, live string, l []api.Owned, manager, want string, e api.Errno) {
	t.Helper()
	failsWith(t, live, l, manager, want, false, e)
	failsWith(t, live, l, manager, want, true, e)
}

// P27: a manager that had nothing before, one that wants nothing any more, and what stays beside.
func TestOrdinary(t *testing.T) {
	both(t, `{"z":0}`, nil, "kit", `{"a":1,"b":{"c":2}}`, `{"a":1,"b":{"c":2},"z":0}`, owned("kit", "/a", "/b/c"))
	both(t, `{"a":1,"b":{"c":2},"z":0}`, list(owned("kit", "/a", "/b/c")), "kit", `{"a":3}`, `{"a":3,"b":{},"z":0}`, owned("kit", "/a"))
	both(t, `{"a":1,"b":{"c":2},"z":0}`, list(owned("kit", "/a", "/b/c")), "kit", "{}", `{"b":{},"z":0}`)
	both(t, `{"a":1}`, list(owned("kit", "/a")), "kit", `{"a":1}`, `{"a":1}`, owned("kit", "/a"))
	both(t, "{}", nil, "kit", "{}", "{}")
	both(t, `{"a":1}`, nil, "kit", "{}", `{"a":1}`)
	both(t, `{"a":1}`, nil, "kit", `{"a":1}`, `{"a":1}`, owned("kit", "/a"))
	both(t, `{"a":1}`, nil, "kit", `{"a":2}`, `{"a":2}`, owned("kit", "/a"))
	both(t, " {\n\"z\":0, \"a\" : [ 1 ] }", list(owned("kit", "/a")), "kit", "\t{ \"c\" : null, \"b\":\"\\n\" }", `{"b":"\n","c":null,"z":0}`, owned("kit", "/b", "/c"))
	both(t, "{}", nil, "kit", `{"o":{},"n":null,"t":"","l":[{"a":[]}],"f":false}`, `{"f":false,"l":[{"a":[]}],"n":null,"o":{},"t":""}`, owned("kit", "/f", "/l", "/n", "/o", "/t"))
	both(t, "{}", nil, "kit", `{"a/b":{"~":1},"a":{"b":2,"/~":3},"a!":4,"":5}`, `{"":5,"a":{"/~":3,"b":2},"a!":4,"a/b":{"~":1}}`, owned("kit", "/", "/a!", "/a/b", "/a/~1~0", "/a~1b/~0"))
}

// P27: several that want one after the other.
func TestSeveral(t *testing.T) {
	l := list(owned("ops", "/b"))
	both(t, `{"a":1,"b":2}`, l, "kit", `{"c":3}`, `{"a":1,"b":2,"c":3}`, owned("kit", "/c"), owned("ops", "/b"))
	both(t, `{"a":1,"b":2}`, l, "zoo", `{"c":3}`, `{"a":1,"b":2,"c":3}`, owned("ops", "/b"), owned("zoo", "/c"))
	both(t, `{"a":1,"b":2}`, l, "op", `{"c":3}`, `{"a":1,"b":2,"c":3}`, owned("op", "/c"), owned("ops", "/b"))
	both(t, `{"a":1,"b":2}`, l, "ops-a", `{"c":3}`, `{"a":1,"b":2,"c":3}`, owned("ops", "/b"), owned("ops-a", "/c"))
	l = list(owned("a", "/a"), owned("m", "/m"), owned("z", "/z"))
	both(t, `{"a":1,"m":2,"z":3}`, l, "m", `{"n":4}`, `{"a":1,"n":4,"z":3}`, owned("a", "/a"), owned("m", "/n"), owned("z", "/z"))
	both(t, `{"a":1,"m":2,"z":3}`, l, "m", "{}", `{"a":1,"z":3}`, owned("a", "/a"), owned("z", "/z"))
	both(t, `{"a":1,"m":2,"z":3}`, l, "b", "{}", `{"a":1,"m":2,"z":3}`, l...)
	both(t, `{"a":1,"m":2,"z":3}`, l, "0", `{"0":0}`, `{"0":0,"a":1,"m":2,"z":3}`, append(list(owned("0", "/0")), l...)...)
	// What others have need not be there, nor be as they wanted it.
	both(t, `{"m":{"q":[]}}`, l, "b", `{"b":1}`, `{"b":1,"m":{"q":[]}}`, owned("a", "/a"), owned("b", "/b"), owned("m", "/m"), owned("z", "/z"))
}

// P27: the same pointer, with the same value and with another one.
func TestSamePointer(t *testing.T) {
	l := list(owned("ops", "/a"))
	both(t, `{"a":2}`, l, "kit", `{"a":2}`, `{"a":2}`, owned("kit", "/a"), owned("ops", "/a"))
	both(t, `{"a":{"x":[1,{"p":1,"q":2}]}}`, list(owned("ops", "/a/x")), "kit", `{"a":{"x":[ 1, {"q":2 ,"p":1} ]}}`, `{"a":{"x":[1,{"p":1,"q":2}]}}`, owned("kit", "/a/x"), owned("ops", "/a/x"))
	both(t, `{"a":{}}`, l, "kit", `{"a":{}}`, `{"a":{}}`, owned("kit", "/a"), owned("ops", "/a"))
	both(t, `{"a":null}`, l, "kit", `{"a":null}`, `{"a":null}`, owned("kit", "/a"), owned("ops", "/a"))
	both(t, `{"a/b":{"~":1}}`, list(owned("ops", "/a~1b/~0")), "kit", `{"a/b":{"~":1}}`, `{"a/b":{"~":1}}`, owned("kit", "/a~1b/~0"), owned("ops", "/a~1b/~0"))
	conflicts(t, `{"a/b":{"~":1}}`, list(owned("ops", "/a~1b/~0")), "kit", `{"a/b":{"~":2}}`, "/a~1b/~0")
	for _, values := range [][2]string{{"2", "1"}, {"2", "null"}, {"null", "false"}, {"1", `"1"`}, {"[1,2]", "[2,1]"}, {"[]", "{}"}, {"{}", "[]"}, {`{"b":1}`, "{}"}, {"{}", "0"}, {`{"b":1}`, "[]"}} {
		live, want := `{"a":`+values[0]+`,"z":0}`, `{"a":`+values[1]+`}`
		conflicts(t, live, l, "kit", want, "/a")
		applies(t, live, l, "kit", want, true, `{"a":`+values[1]+`,"z":0}`, owned("kit", "/a"))
		// What the same manager had is no conflict.
		both(t, live, l, "ops", want, `{"a":`+values[1]+`,"z":0}`, owned("ops", "/a"))
		// Where several have it, all of them let it go.
		three := list(owned("a", "/a", "/b"), owned("kit", "/a"), owned("ops", "/a"))
		conflicts(t, live, three, "kit", want, "/a")
		applies(t, live, three, "kit", want, true, `{"a":`+values[1]+`,"z":0}`, owned("a", "/b"), owned("kit", "/a"))
	}
}

// P27: a leaf of want that leads to nothing in live is in conflict, too, if another one has it.
func TestNothingThere(t *testing.T) {
	conflicts(t, "{}", list(owned("ops", "/a")), "kit", `{"a":1}`, "/a")
	conflicts(t, `{"a":1}`, list(owned("ops", "/a/b")), "kit", `{"a":{"b":1}}`, "/a/b")
	conflicts(t, `{"a":{}}`, list(owned("ops", "/a/b")), "kit", `{"a":{"b":{}}}`, "/a/b")
	conflicts(t, `{"a":{"b":null}}`, list(owned("ops", "/a/b/c")), "kit", `{"a":{"b":{"c":null}}}`, "/a/b/c")
	conflicts(t, `{"a":[]}`, list(owned("ops", "/a/0")), "kit", `{"a":{"0":1}}`, "/a/0")
	applies(t, "{}", list(owned("ops", "/a")), "kit", `{"a":1}`, true, `{"a":1}`, owned("kit", "/a"))
	applies(t, `{"a":1}`, list(owned("ops", "/a/b", "/c")), "kit", `{"a":{"b":1}}`, true, `{"a":{"b":1}}`, owned("kit", "/a/b"), owned("ops", "/c"))
}

// P27: a pointer within another one, in both directions; and such as only look like it.
func TestTouch(t *testing.T) {
	live := `{"a":{"b":{"c":1},"d":2},"ab":3}`
	for _, p := range []string{"/a", "/a/b", "/a/b/c/x", "/a/b/c/x/y", "/a/b/c/"} {
		conflicts(t, live, list(owned("ops", p)), "kit", `{"a":{"b":{"c":1}}}`, "/a/b/c")
		applies(t, live, list(owned("ops", p)), "kit", `{"a":{"b":{"c":1}}}`, true, live, owned("kit", "/a/b/c"))
		conflicts(t, live, list(owned("ops", "/A", p, "/ab")), "kit", `{"a":{"b":{"c":5}}}`, "/a/b/c")
		applies(t, live, list(owned("ops", "/A", p, "/ab")), "kit", `{"a":{"b":{"c":5}}}`, true, `{"a":{"b":{"c":5},"d":2},"ab":3}`, owned("kit", "/a/b/c"), owned("ops", "/A", "/ab"))
	}
	for _, p := range []string{"/", "/a!", "/a/", "/a/b!", "/a/b/", "/a/b/c!", "/a/b/cc", "/a/bb/c", "/a/c", "/a/d", "/ab", "/ab/b/c", "/a~1b", "/a~1b/c", "/a~1b~1c", "/b", "/b/c", "/c", "/x"} {
		both(t, live, list(owned("ops", p)), "kit", `{"a":{"b":{"c":5}}}`, `{"a":{"b":{"c":5},"d":2},"ab":3}`, owned("kit", "/a/b/c"), owned("ops", p))
	}
	// An object without fields is a leaf that is touched by what lies in it.
	conflicts(t, live, list(owned("ops", "/a/b/c")), "kit", `{"a":{}}`, "/a")
	applies(t, live, list(owned("ops", "/a/b/c")), "kit", `{"a":{}}`, true, `{"a":{},"ab":3}`, owned("kit", "/a"))
	conflicts(t, `{"a":{}}`, list(owned("ops", "/a")), "kit", `{"a":{"b":1}}`, "/a/b")
	conflicts(t, live, list(owned("ops", "/a")), "kit", `{"a":{"b":{"c":1},"d":2},"ab":3}`, "/a/b/c", "/a/d")
	// So is a list, whatever it has.
	conflicts(t, `{"a":[1,2]}`, list(owned("ops", "/a/0")), "kit", `{"a":[1,2]}`, "/a")
	applies(t, `{"a":[1,2]}`, list(owned("ops", "/a/0")), "kit", `{"a":[1,2]}`, true, `{"a":[1,2]}`, owned("kit", "/a"))
}

// P27: all leaves in conflict are told, rising, and only these.
func TestAllConflicts(t *testing.T) {
	live := `{"a":{"b":1,"c":2},"a!":3,"d":4,"e":5,"/":6,"~":7}`
	l := list(owned("a", "/d", "/~1"), owned("kit", "/a/b", "/e"), owned("ops", "/a", "/a!"), owned("z", "/d", "/e/x", "/~0"))
	conflicts(t, live, l, "kit", `{"~":0,"/":6,"e":5,"d":4,"a!":0,"a":{"c":2,"b":1},"x":{}}`, "/a!", "/a/b", "/a/c", "/e", "/~0")
	applies(t, live, l, "kit", `{"~":0,"/":6,"e":5,"d":4,"a!":0,"a":{"c":2,"b":1},"x":{}}`, true, `{"/":6,"a":{"b":1,"c":2},"a!":0,"d":4,"e":5,"x":{},"~":0}`,
		owned("a", "/d", "/~1"), owned("kit", "/a!", "/a/b", "/a/c", "/d", "/e", "/x", "/~0", "/~1"), owned("z", "/d"))
	conflicts(t, row(100, 190, "1"), list(owned("ops", rowPaths(110, 180)...)), "kit", row(100, 190, "2"), rowPaths(110, 180)...)
	applies(t, row(100, 190, "1"), list(owned("ops", append(rowPaths(100, 200), rowPaths(90, 10)...)...)), "kit", row(100, 190, "2"), true, row(100, 190, "2"), owned("kit", rowPaths(100, 190)...), owned("ops", append(rowPaths(290, 10), rowPaths(90, 10)...)...))
}

// P27: with force the others keep what is in no conflict, and the same pointer with the same value, also where another one has it otherwise.
func TestForce(t *testing.T) {
	live := `{"a":{"b":1},"c":2}`
	applies(t, live, list(owned("o1", "/a"), owned("o2", "/a/b"), owned("o3", "/a/b/c")), "kit", `{"a":{"b":1}}`, true, live, owned("kit", "/a/b"), owned("o2", "/a/b"))
	applies(t, live, list(owned("o1", "/a"), owned("o2", "/a/b", "/c"), owned("o3", "/a/b/c", "/c")), "kit", `{"a":{"b":2},"c":2}`, true, `{"a":{"b":2},"c":2}`, owned("kit", "/a/b", "/c"), owned("o2", "/c"), owned("o3", "/c"))
	applies(t, live, list(owned("o1", "/a", "/a/b", "/c")), "kit", `{"a":{"b":1}}`, true, live, owned("kit", "/a/b"), owned("o1", "/a/b", "/c"))
	applies(t, live, list(owned("o1", "/a", "/a/b", "/c")), "kit", `{"a":{"b":3}}`, true, `{"a":{"b":3},"c":2}`, owned("kit", "/a/b"), owned("o1", "/c"))
	// Of whose names only the beginning is the same is another one.
	applies(t, live, list(owned("kit-a", "/c")), "kit", `{"c":3}`, true, `{"a":{"b":1},"c":3}`, owned("kit", "/c"))
	conflicts(t, live, list(owned("kit-a", "/c")), "kit", `{"c":3}`, "/c")
	conflicts(t, live, list(owned("ki", "/c")), "kit", `{"c":3}`, "/c")
}

// P27: what the manager had and wants no more goes, if it is there; pointers in their order.
func TestGoes(t *testing.T) {
	both(t, `{"a":{"b":1,"c":2},"d":3}`, list(owned("kit", "/a/b", "/d")), "kit", `{"x":1}`, `{"a":{"c":2},"x":1}`, owned("kit", "/x"))
	// What it leads to goes whole, whatever it has become.
	both(t, `{"a":{"b":{"c":{"d":1}}},"e":[1]}`, list(owned("kit", "/a/b", "/e")), "kit", "{}", `{"a":{}}`)
	// It need not be there.
	both(t, `{"a":1}`, list(owned("kit", "/a/b", "/b", "/c/d")), "kit", "{}", `{"a":1}`)
	both(t, `{"l":[1]}`, list(owned("kit", "/l/-", "/l/00", "/l/1", "/l/a")), "kit", "{}", `{"l":[1]}`)
	// What is within what went is gone with it.
	both(t, `{"a":{"b":1,"c":2}}`, list(owned("kit", "/a", "/a/b", "/a/c")), "kit", "{}", "{}")
	both(t, `{"a":{"b":1,"c":2}}`, list(owned("kit", "/a", "/a/b")), "kit", `{"a":{"b":3}}`, `{"a":{"b":3}}`, owned("kit", "/a/b"))
	// Values of a list move up behind one that goes.
	both(t, `{"l":[1,2,3,4]}`, list(owned("kit", "/l/0", "/l/1")), "kit", "{}", `{"l":[2,4]}`)
	both(t, `{"l":[1,2,3,4]}`, list(owned("kit", "/l/0", "/l/2", "/l/3")), "kit", "{}", `{"l":[2,3]}`)
	both(t, `{"l":[{"a":1},{"a":2}]}`, list(owned("kit", "/l/0/a", "/l/1")), "kit", "{}", `{"l":[{}]}`)
	both(t, `{"l":[[1,2],[3,4]]}`, list(owned("kit", "/l/0", "/l/0/0")), "kit", "{}", `{"l":[[4]]}`)
	// A name need be none that a document can have.
	both(t, `{"a":1}`, list(owned("kit", "/\x00/a", "/\xff")), "kit", "{}", `{"a":1}`)
	both(t, `{"/":{"~":1},"~1":2,"":{"":3}}`, list(owned("kit", "//", "/~01", "/~1/~0")), "kit", "{}", `{"":{},"/":{}}`)
	// A leaf of want that is in what goes comes anew, and nothing else of it.
	both(t, `{"a":{"b":1,"c":2}}`, list(owned("kit", "/a")), "kit", `{"a":{"b":5}}`, `{"a":{"b":5}}`, owned("kit", "/a/b"))
	both(t, `{"a":{"b":1,"c":2}}`, list(owned("kit", "/a/b")), "kit", `{"a":7}`, `{"a":7}`, owned("kit", "/a"))
	both(t, `{"a":{"b":1,"c":2}}`, list(owned("kit", "/a/b", "/a/c")), "kit", `{"a":{}}`, `{"a":{}}`, owned("kit", "/a"))
	// All ways have as many steps as there may be.
	both(t, nestFields(10, "1"), list(owned("kit", strings.Repeat("/a", 10))), "kit", "{}", nestFields(9, "{}"))
	both(t, nestFields(10, "1"), list(owned("kit", strings.Repeat("/a", 10))), "kit", nestFields(10, "2"), nestFields(10, "2"), owned("kit", strings.Repeat("/a", 10)))
}

// P27: what the manager had stays where it is wanted.
func TestStaysWanted(t *testing.T) {
	both(t, `{"a":1,"b":2}`, list(owned("kit", "/a", "/b")), "kit", `{"b":2}`, `{"b":2}`, owned("kit", "/b"))
	both(t, `{"a":{"b":1,"c":2},"d":3}`, list(owned("kit", "/a/b", "/a/c", "/d")), "kit", `{"a":{"c":2},"e":4}`, `{"a":{"c":2},"e":4}`, owned("kit", "/a/c", "/e"))
	// What lies in a list moves up only if something goes.
	both(t, `{"l":[1,2]}`, list(owned("kit", "/l/0")), "kit", `{"l":{"0":7}}`, `{"l":{"0":7}}`, owned("kit", "/l/0"))
}

// P27: what the manager had stays where another one has a pointer that touches it.
func TestStaysTouched(t *testing.T) {
	live := `{"a":{"b":{"c":1},"d":2}}`
	for _, p := range []string{"/a", "/a/b", "/a/b/c", "/a/b/c/x", "/a/b/y"} {
		both(t, live, list(owned("kit", "/a/b"), owned("ops", p)), "kit", `{"x":1}`, `{"a":{"b":{"c":1},"d":2},"x":1}`, owned("kit", "/x"), owned("ops", p))
		left := `{"a":{"b":{"c":1}}}`
		if p == "/a" {
			left = live
		}
		both(t, live, list(owned("kit", "/a/b", "/a/d"), owned("ops", "/A", p, "/z"), owned("z", "/q")), "kit", "{}", left, owned("ops", "/A", p, "/z"), owned("z", "/q"))
	}
	for _, p := range []string{"/", "/a!", "/a/", "/a/b!", "/a/bb", "/a/d", "/ab", "/a~1b", "/a~1b/c", "/b"} {
		both(t, live, list(owned("kit", "/a/b"), owned("ops", p)), "kit", "{}", `{"a":{"d":2}}`, owned("ops", p))
	}
	// What touches another pointer of one's own is of no matter.
	both(t, live, list(owned("kit", "/a/b", "/a/b/c"), owned("ops", "/a/d")), "kit", "{}", `{"a":{"d":2}}`, owned("ops", "/a/d"))
}

// P27: what others had and lose by force doesn't hold it any more.
func TestTouchedNoMore(t *testing.T) {
	live := `{"a":{"x":1,"z":2}}`
	l := list(owned("kit", "/a/x"), owned("ops", "/a"))
	applies(t, live, l, "kit", `{"a":{"y":3}}`, true, `{"a":{"y":3,"z":2}}`, owned("kit", "/a/y"))
	conflicts(t, live, l, "kit", `{"a":{"y":3}}`, "/a/y")
	both(t, live, l, "kit", `{"b":3}`, `{"a":{"x":1,"z":2},"b":3}`, owned("kit", "/b"), owned("ops", "/a"))
	// One of them is still there.
	l = list(owned("kit", "/a/x"), owned("o1", "/a"), owned("o2", "/a/x"))
	applies(t, live, l, "kit", `{"a":{"y":3}}`, true, `{"a":{"x":1,"y":3,"z":2}}`, owned("kit", "/a/y"), owned("o2", "/a/x"))
}

// P27: where a way leads nowhere, or to what is no object, there is an object from now on.
func TestPut(t *testing.T) {
	both(t, "{}", nil, "kit", `{"a":{"b":{"c":{"d":1}}}}`, `{"a":{"b":{"c":{"d":1}}}}`, owned("kit", "/a/b/c/d"))
	both(t, `{"a":{"x":0}}`, nil, "kit", `{"a":{"b":{"c":1,"d":2}}}`, `{"a":{"b":{"c":1,"d":2},"x":0}}`, owned("kit", "/a/b/c", "/a/b/d"))
	for _, v := range noObjects() {
		both(t, `{"a":`+v+`,"z":`+v+`}`, nil, "kit", `{"a":{"b":1,"c":{"d":2,"e":3}}}`, `{"a":{"b":1,"c":{"d":2,"e":3}},"z":`+v+`}`, owned("kit", "/a/b", "/a/c/d", "/a/c/e"))
		both(t, `{"a":{"b":`+v+`,"x":1}}`, nil, "kit", `{"a":{"b":{"0":{"a":1}}}}`, `{"a":{"b":{"0":{"a":1}},"x":1}}`, owned("kit", "/a/b/0/a"))
		both(t, `{"a":{"b":`+v+`}}`, nil, "kit", `{"a":{"b":{"-":{}}}}`, `{"a":{"b":{"-":{}}}}`, owned("kit", "/a/b/-"))
		// At the end of the way all gives way.
		for _, w := range append(noObjects(), "{}") {
			both(t, `{"a":{"b":`+v+`}}`, nil, "kit", `{"a":{"b":`+w+`}}`, `{"a":{"b":`+w+`}}`, owned("kit", "/a/b"))
			both(t, `{"a":`+v+`}`, nil, "kit", `{"a":{"b":`+w+`}}`, `{"a":{"b":`+w+`}}`, owned("kit", "/a/b"))
			both(t, `{"a":{"b":{"x":1}}}`, nil, "kit", `{"a":{"b":`+w+`}}`, `{"a":{"b":`+w+`}}`, owned("kit", "/a/b"))
		}
	}
	// A list on the way goes, though the step would lead on in it; as a value it would be the same, which is no conflict.
	both(t, `{"a":[1,2]}`, nil, "kit", `{"a":{"0":1}}`, `{"a":{"0":1}}`, owned("kit", "/a/0"))
	both(t, `{"a":[1,2]}`, list(owned("ops", "/a/0")), "kit", `{"a":{"0":1}}`, `{"a":{"0":1}}`, owned("kit", "/a/0"), owned("ops", "/a/0"))
	conflicts(t, `{"a":[1,2]}`, list(owned("ops", "/a/0")), "kit", `{"a":{"0":2}}`, "/a/0")
	conflicts(t, `{"a":[1,2]}`, list(owned("ops", "/a/1")), "kit", `{"a":{"00":2,"1":1}}`, "/a/1")
}

// P27: one manager more than there may be.
func TestManyManagers(t *testing.T) {
	live := `{"m1":1,"m2":2,"m3":3,"m4":4,"m5":5,"m6":6}`
	both(t, live, managers(5), "kit", `{"k":0}`, `{"k":0,`+live[1:], append(list(owned("kit", "/k")), managers(5)...)...)
	fails(t, live, managers(6), "kit", `{"k":0}`, api.ErrLarge)
	fails(t, live, managers(6), "kit", `{"m1":1}`, api.ErrLarge)
	both(t, live, managers(6), "kit", "{}", live, managers(6)...)
	// A conflict is told ahead of it, and by force there may be one less.
	conflicts(t, live, managers(6), "kit", `{"m6":0}`, "/m6")
	applies(t, live, managers(6), "kit", `{"m6":0}`, true, strings.Replace(live, "6}", "0}", 1), append(list(owned("kit", "/m6")), managers(5)...)...)
	conflicts(t, live, managers(6), "kit", `{"m5":5,"m6":0}`, "/m6")
	two := managers(6)
	two[5].Paths = []string{"/m6", "/m7"}
	conflicts(t, live, two, "kit", `{"m6":0}`, "/m6")
	failsWith(t, live, two, "kit", `{"m6":0}`, true, api.ErrLarge)
	// One of the six wants otherwise, or nothing.
	both(t, live, managers(6), "m1", `{"m1":0,"m2":2}`, strings.Replace(live, "1,", "0,", 1), append(list(owned("m1", "/m1", "/m2")), managers(6)[1:]...)...)
	both(t, live, managers(6), "m1", "{}", `{`+live[8:], managers(6)[1:]...)
}

// P27, P8: what is made is told, or too great to be. (It lies as deep as it lay in live or in want, so it is never too deep.)
func TestTold(t *testing.T) {
	both(t, row(100, 100, "1"), nil, "kit", row(200, 99, "2"), strings.TrimSuffix(row(100, 100, "1"), "}")+","+row(200, 99, "2")[1:], owned("kit", rowPaths(200, 99)...))
	fails(t, row(100, 100, "1"), nil, "kit", row(200, 100, "2"), api.ErrLarge)
	both(t, row(100, 199, "1"), list(owned("kit", "/100")), "kit", `{"x":[]}`, strings.TrimSuffix(row(101, 198, "1"), "}")+`,"x":[]}`, owned("kit", "/x"))
	fails(t, row(100, 199, "1"), list(owned("kit", "/99")), "kit", `{"x":[]}`, api.ErrLarge)
	both(t, row(100, 199, "1"), list(owned("kit", "/100")), "kit", row(100, 199, "2"), row(100, 199, "2"), owned("kit", rowPaths(100, 199)...))
	text := func(n int) string { return `"` + strings.Repeat("x", n) + `"` }
	for n := 980; n <= 990; n++ {
		live, want := `{"a":`+text(1000)+`}`, `{"b":`+text(n)+`}`
		if made := strings.TrimSuffix(live, "}") + "," + want[1:]; len(made) <= 2000 {
			both(t, live, nil, "kit", want, made, owned("kit", "/b"))
		} else {
			fails(t, live, nil, "kit", want, api.ErrLarge)
		}
	}
	// A conflict is told ahead of it.
	conflicts(t, row(100, 101, "1"), list(owned("ops", "/200")), "kit", row(200, 101, "2"), "/200")
	failsWith(t, row(100, 101, "1"), list(owned("ops", "/200")), "kit", row(200, 101, "2"), true, api.ErrLarge)
	applies(t, row(100, 100, "1"), list(owned("ops", "/199")), "kit", row(199, 100, "2"), true, strings.TrimSuffix(row(100, 99, "1"), "}")+","+row(199, 100, "2")[1:], owned("kit", rowPaths(199, 100)...))
	conflicts(t, `{"a":`+text(1500)+`}`, list(owned("ops", "/b")), "kit", `{"b":`+text(1500)+`}`, "/b")
	failsWith(t, `{"a":`+text(1500)+`}`, list(owned("ops", "/b")), "kit", `{"b":`+text(1500)+`}`, true, api.ErrLarge)

	deep := `{"b":` + nest(9, "1") + `}`
	both(t, deep, nil, "kit", nestFields(10, "1"), strings.TrimSuffix(nestFields(10, "1"), "}")+","+deep[1:], owned("kit", strings.Repeat("/a", 10)))
	both(t, nestFields(10, "1"), nil, "kit", deep, strings.TrimSuffix(nestFields(10, "1"), "}")+","+deep[1:], owned("kit", "/b"))
	both(t, nestFields(9, `{"b":1}`), nil, "kit", nestFields(10, "2"), nestFields(9, `{"a":2,"b":1}`), owned("kit", strings.Repeat("/a", 10)))
	both(t, nestFields(9, "{}"), nil, "kit", nestFields(9, "[2]"), nestFields(9, "[2]"), owned("kit", strings.Repeat("/a", 9)))
	fails(t, nestFields(10, "[]"), nil, "kit", "{}", api.ErrDeep)
	fails(t, "{}", nil, "kit", nestFields(10, "{}"), api.ErrDeep)
}

// P27: the errors in their order: live, who has which parts, the manager, want, what is no object.
func TestOrderOfErrors(t *testing.T) {
	wrongOwned := []struct {
		l []api.Owned
		e api.Errno
	}{
		{managers(7), api.ErrLarge},
		{list(owned("-", "/a")), api.ErrName},
		{list(owned("b", "/a"), owned("a", "/a")), api.ErrArg},
		{list(owned("a", "x")), api.ErrForm},
		{list(owned("a", "/b", "/a")), api.ErrArg},
		{list(owned("a")), api.ErrArg},
		{list(owned("a", "/a"), owned("b", "")), api.ErrArg},
		{list(owned("kit", strings.Repeat("/a", 11))), api.ErrLarge},
	}
	wrongNames := []mistake{{"", api.ErrName}, {"Kit", api.ErrName}, {"k-", api.ErrName}, {strings.Repeat("k", 64), api.ErrLarge}}
	some := append(noObjects(), "{}", `{"a":1}`)
	for _, w := range mistakes() {
		for _, want := range append(some, "x", "") {
			fails(t, w.s, managers(7), "-", want, w.e)
			fails(t, w.s, managers(2), "kit", want, w.e)
		}
		for _, live := range some {
			fails(t, live, managers(6), "kit", w.s, w.e)
			fails(t, live, managers(6), "m1", w.s, w.e)
			for _, n := range wrongNames {
				fails(t, live, managers(6), n.s, w.s, n.e)
			}
			for _, o := range wrongOwned {
				fails(t, live, o.l, "kit", w.s, o.e)
				fails(t, live, o.l, "-", w.s, o.e)
			}
		}
	}
	for _, live := range some {
		for _, want := range some {
			for _, n := range wrongNames {
				fails(t, live, managers(2), n.s, want, n.e)
			}
			for _, o := range wrongOwned {
				fails(t, live, o.l, "kit", want, o.e)
			}
			if live[0] != '{' || want[0] != '{' {
				fails(t, live, nil, "kit", want, api.ErrKind)
				fails(t, live, list(owned("ops", "/a")), "kit", want, api.ErrKind)
				fails(t, live, managers(6), "kit", want, api.ErrKind)
			}
		}
	}
	// What is wrong with live and with what is had is told, though the manager wants nothing of it.
	fails(t, `{"a":1,}`, nil, "kit", "{}", api.ErrSyntax)
	fails(t, "{}", list(owned("ops")), "kit", "{}", api.ErrArg)
}

// P27: who wants the same again is in no conflict, and nothing becomes other.
func TestAgain(t *testing.T) {
	live, l := `{"z":{"y":1}}`, list()
	for i := range 5 {
		manager, want := "m"+strconv.Itoa(i), `{"a":{"b`+strconv.Itoa(i)+`":1,"c":[]},"z":{"x`+strconv.Itoa(i)+`":{}}}`
		made, then, bad, e := fields.Apply(live, l, manager, want, false)
		if len(then) != i+1 || len(bad) != 0 || e != api.OK {
			t.Fatal(made, then, bad, e)
		}
		both(t, made, then, manager, want, made, then...)
		live, l = made, then
	}
	for i := range 5 {
		live, l, _, _ = fields.Apply(live, l, "m"+strconv.Itoa(i), "{}", false)
	}
	if live != `{"a":{},"z":{"y":1}}` || len(l) != 0 {
		t.Error(live, l)
	}
}
