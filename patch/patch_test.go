package patch_test

import (
	"fmt"
	"math"
	"slices"
	"strconv"
	"strings"
	"testing"
	"unsafe"

	"seneschal/api"
	"seneschal/json"
	"seneschal/patch"
)

func add(path, value string) api.Op {
	return api.Op{Kind: api.OpAdd, Path: path, Value: value}
}

func remove(path string) api.Op {
	return api.Op{Kind: api.OpRemove, Path: path}
}

func replace(path, value string) api.Op {
	return api.Op{Kind: api.OpReplace, Path: path, Value: value}
}

func move(from, path string) api.Op {
	return api.Op{Kind: api.OpMove, From: from, Path: path}
}

func copied(from, path string) api.Op {
	return api.Op{Kind: api.OpCopy, From: from, Path: path}
}

func test(path, value string) api.Op {
	return api.Op{Kind: api.OpTest, Path: path, Value: value}
}

func list(ops ...api.Op) []api.Op { return ops }

// show is for the eyes: not so long that nobody reads it.
func show(ops []api.Op) string {
	return fmt.Sprintf("%d steps %.300s", len(ops), fmt.Sprintf("%+v", ops))
}

// makes asks for what comes of the steps, for those that lead back, and that they do lead back.
func makes(t *testing.T, doc string, ops []api.Op, want string, back ...api.Op) {
	t.Helper()
	if got, n, e := patch.Apply(doc, ops); got != want || n != len(ops) || e != api.OK {
		t.Errorf("Apply(%.80q, %s) = %.80q, %d, %d, want %.80q", doc, show(ops), got, n, e, want)
	}
	got, e := patch.Invert(doc, ops)
	if !slices.Equal(got, back) || e != api.OK {
		t.Errorf("Invert(%.80q, %s) = %s, %d, want %s", doc, show(ops), show(got), e, show(back))
	}
	leadsBack(t, doc, want, got)
}

// leadsBack asks that the steps, of which there may be more than one call takes, make doc of made.
func leadsBack(t *testing.T, doc, made string, back []api.Op) {
	t.Helper()
	for piece := range slices.Chunk(back, api.MaxOps) {
		s, _, e := patch.Apply(made, piece)
		if e != api.OK {
			t.Errorf("back to %.80q: %.80q, %s: %d", doc, made, show(piece), e)
			return
		}
		made = s
	}
	if is, e := json.Same(made, doc); !is || e != api.OK {
		t.Errorf("back to %.80q: %.80q, %d", doc, made, e)
	}
}

// fails asks both calls for the error, and for how many steps stand ahead of the one that has it.
func fails(t *testing.T, doc string, ops []api.Op, ahead int, e api.Errno) {
	t.Helper()
	if got, n, f := patch.Apply(doc, ops); got != "" || n != ahead || f != e {
		t.Errorf("Apply(%.80q, %s) = %.80q, %d, %d, want %d, %d", doc, show(ops), got, n, f, ahead, e)
	}
	if got, f := patch.Invert(doc, ops); got != nil || f != e {
		t.Errorf("Invert(%.80q, %s) = %s, %d, want %d", doc, show(ops), show(got), f, e)
	}
}

func nest(n int, inner string) string {
	return strings.Repeat("[", n) + inner + strings.Repeat("]", n)
}

// row is a list of n times item.
func row(n int, item string) string {
	return "[" + strings.TrimSuffix(strings.Repeat(item+",", n), ",") + "]"
}

func text(n int) string {
	return `"` + strings.Repeat("x", n) + `"`
}

// P14, P15
func TestNoSteps(t *testing.T) {
	makes(t, " { \"b\" : 1,\n\"a\":[ ] } ", nil, `{"a":[],"b":1}`)
	makes(t, "null", []api.Op{}, "null")
	makes(t, strings.Repeat(" ", 1996)+"true", nil, "true")
	makes(t, row(199, "1"), nil, row(199, "1"))
	makes(t, nest(10, "1"), nil, nest(10, "1"))
	makes(t, text(1998), nil, text(1998))
}

// P14, P15
func TestAddField(t *testing.T) {
	doc := `{"b":[1,{"x":2}],"d":{},"f":null}`
	makes(t, doc, list(add("/a", "0")), `{"a":0,"b":[1,{"x":2}],"d":{},"f":null}`, remove("/a"))
	makes(t, doc, list(add("/c", ` { "z":1, "y" : 2 } `)), `{"b":[1,{"x":2}],"c":{"y":2,"z":1},"d":{},"f":null}`, remove("/c"))
	makes(t, doc, list(add("/g", "null")), `{"b":[1,{"x":2}],"d":{},"f":null,"g":null}`, remove("/g"))
	makes(t, doc, list(add("/", "0")), `{"":0,"b":[1,{"x":2}],"d":{},"f":null}`, remove("/"))
	makes(t, doc, list(add("/b", "0")), `{"b":0,"d":{},"f":null}`, replace("/b", `[1,{"x":2}]`))
	makes(t, doc, list(add("/f", "null")), `{"b":[1,{"x":2}],"d":{},"f":null}`, replace("/f", "null"))
	makes(t, doc, list(add("/f", "[]")), `{"b":[1,{"x":2}],"d":{},"f":[]}`, replace("/f", "null"))
	makes(t, doc, list(add("/b/1/x", "3")), `{"b":[1,{"x":3}],"d":{},"f":null}`, replace("/b/1/x", "2"))
	makes(t, doc, list(add("/b/1/y", "3")), `{"b":[1,{"x":2,"y":3}],"d":{},"f":null}`, remove("/b/1/y"))
	// In an object `-` and places are names as others are.
	makes(t, doc, list(add("/d/-", "1")), `{"b":[1,{"x":2}],"d":{"-":1},"f":null}`, remove("/d/-"))
	makes(t, `{"-":1}`, list(add("/-", "2")), `{"-":2}`, replace("/-", "1"))
	makes(t, doc, list(add("/d/7", "1")), `{"b":[1,{"x":2}],"d":{"7":1},"f":null}`, remove("/d/7"))
	makes(t, doc, list(add("/d/01", "1")), `{"b":[1,{"x":2}],"d":{"01":1},"f":null}`, remove("/d/01"))
	makes(t, "{}", list(add("/~0~1~01", "1")), `{"~/~1":1}`, remove("/~0~1~01"))
	makes(t, `{"/":"a\"\n"}`, list(add("/~1", "1")), `{"/":1}`, replace("/~1", `"a\"\n"`))
	makes(t, "{}", list(add("/\"\\\n\t", "1")), `{"\"\\\n\t":1}`, remove("/\"\\\n\t"))
	// What leads back is canonical, whatever was handed in.
	makes(t, "{\"a\": { \"d\" :1 , \"c\":[ 2 ] } }", list(add("/a", "1")), `{"a":1}`, replace("/a", `{"c":[2],"d":1}`))
	makes(t, `{"a":null}`, list(add("/a", "1"), remove("/a")), "{}", add("/a", "1"), replace("/a", "null"))

	for _, p := range []string{"/f/x", "/f/", "/f/0", "/f/-", "/x/y", "/d/x/y", "/b/0/x", "/b/0/0", "/b/0/-", "/b/2/x", "/b/-/x", "/b/x/y", "/b/1/x/y", "/b/01/x"} {
		fails(t, doc, list(add(p, "3")), 0, api.ErrNone)
	}
	for _, doc := range []string{"null", "true", "false", "0", `""`, `"ab"`} {
		for _, p := range []string{"/", "/0", "/-", "/a", "/a/b"} {
			fails(t, doc, list(add(p, "1")), 0, api.ErrNone)
			fails(t, `{"a":`+doc+`}`, list(add("/a"+p, "1")), 0, api.ErrNone)
			fails(t, "["+doc+"]", list(add("/0"+p, "1")), 0, api.ErrNone)
		}
	}
}

// P14, P15
func TestAddItem(t *testing.T) {
	makes(t, "[1,2]", list(add("/0", "9")), "[9,1,2]", remove("/0"))
	makes(t, "[1,2]", list(add("/1", "9")), "[1,9,2]", remove("/1"))
	makes(t, "[1,2]", list(add("/2", "9")), "[1,2,9]", remove("/2"))
	makes(t, "[1,2]", list(add("/-", "9")), "[1,2,9]", remove("/2"))
	makes(t, "[]", list(add("/0", "9")), "[9]", remove("/0"))
	makes(t, "[]", list(add("/-", "9")), "[9]", remove("/0"))
	makes(t, "[null]", list(add("/0", "null")), "[null,null]", remove("/0"))
	makes(t, `{"a":[[1,2],{}]}`, list(add("/a/0/-", "[ 3 ]")), `{"a":[[1,2,[3]],{}]}`, remove("/a/0/2"))
	makes(t, `{"a":[[1,2],{}]}`, list(add("/a/1/-", "3")), `{"a":[[1,2],{"-":3}]}`, remove("/a/1/-"))
	makes(t, `{"a":[[1,2],{}]}`, list(add("/a/1", "3")), `{"a":[[1,2],3,{}]}`, remove("/a/1"))
	makes(t, row(11, "1"), list(add("/11", "2"), add("/10", "3"), add("/-", "4")),
		"[1,1,1,1,1,1,1,1,1,1,3,1,2,4]", remove("/13"), remove("/10"), remove("/11"))
	makes(t, "[]", list(add("/-", "1"), add("/-", "2"), add("/0", "3")), "[3,1,2]", remove("/0"), remove("/1"), remove("/0"))

	for _, p := range []string{"/3", "/4", "/", "/00", "/01", "/-0", "/-1", "/+1", "/--", "/x", "/1x", "/ 1", "/1 ", "/1.0", "/1e0", "/0x1", "/~0", "/~1", "/\xb1",
		"/18446744073709551616", "/18446744073709551617", "/9223372036854775808", "/4294967296", "/" + strings.Repeat("9", 3000)} {
		fails(t, "[1,2]", list(add(p, "9")), 0, api.ErrNone)
		fails(t, `{"a":[[],[1,2]]}`, list(add("/a/1"+p, "9")), 0, api.ErrNone)
	}
	fails(t, "[]", list(add("/1", "9")), 0, api.ErrNone)
	fails(t, "[[]]", list(add("/-/0", "9")), 0, api.ErrNone)
	fails(t, "[[]]", list(add("/1/0", "9")), 0, api.ErrNone)
}

// P14, P15
func TestAddWhole(t *testing.T) {
	makes(t, `{"b":1, "a":2}`, list(add("", " [ 1 , {\"b\":2,\"a\":3} ]")), `[1,{"a":3,"b":2}]`, replace("", `{"a":2,"b":1}`))
	makes(t, "1", list(add("", "1")), "1", replace("", "1"))
	makes(t, "null", list(add("", "{}"), add("/a", "1")), `{"a":1}`, remove("/a"), replace("", "null"))
	makes(t, "[1]", list(add("", "null")), "null", replace("", "[1]"))
}

// P14, P15
func TestRemove(t *testing.T) {
	doc := `{"d":{}, "b":[1,{"x":2,"z":[5,6,7]}], "":null, "-":1 }`
	makes(t, doc, list(remove("/b")), `{"":null,"-":1,"d":{}}`, add("/b", `[1,{"x":2,"z":[5,6,7]}]`))
	makes(t, doc, list(remove("/")), `{"-":1,"b":[1,{"x":2,"z":[5,6,7]}],"d":{}}`, add("/", "null"))
	makes(t, doc, list(remove("/-")), `{"":null,"b":[1,{"x":2,"z":[5,6,7]}],"d":{}}`, add("/-", "1"))
	makes(t, doc, list(remove("/b/1/x")), `{"":null,"-":1,"b":[1,{"z":[5,6,7]}],"d":{}}`, add("/b/1/x", "2"))
	makes(t, doc, list(remove("/b/1/z/0")), `{"":null,"-":1,"b":[1,{"x":2,"z":[6,7]}],"d":{}}`, add("/b/1/z/0", "5"))
	makes(t, doc, list(remove("/b/1/z/1")), `{"":null,"-":1,"b":[1,{"x":2,"z":[5,7]}],"d":{}}`, add("/b/1/z/1", "6"))
	makes(t, doc, list(remove("/b/1/z/2")), `{"":null,"-":1,"b":[1,{"x":2,"z":[5,6]}],"d":{}}`, add("/b/1/z/2", "7"))
	makes(t, "[ {\"b\":1, \"a\" : [ ]} ]", list(remove("/0")), "[]", add("/0", `{"a":[],"b":1}`))
	makes(t, `{"a/b":1,"a~1b":2}`, list(remove("/a~1b")), `{"a~1b":2}`, add("/a~1b", "1"))
	makes(t, "[1,2,3]", list(remove("/0"), remove("/0"), remove("/0")), "[]", add("/0", "3"), add("/0", "2"), add("/0", "1"))

	for _, doc := range []string{doc, "1", "{}", "[]", "null"} {
		fails(t, doc, list(remove("")), 0, api.ErrArg)
	}
	for _, p := range []string{"/a", "/c", "//", "/d/x", "/d/-", "/b/2", "/b/-", "/b/00", "/b/x", "/b/", "/b/0/0", "/b/1/y", "/b/1/z/3", "/b/1/z/-", "/x/y"} {
		fails(t, doc, list(remove(p)), 0, api.ErrNone)
	}
}

// P14, P15
func TestReplace(t *testing.T) {
	doc := `{"b":[1,{"x":2}],"d":{},"-":null}`
	makes(t, doc, list(replace("", " 7")), "7", replace("", `{"-":null,"b":[1,{"x":2}],"d":{}}`))
	makes(t, "null", list(replace("", "null")), "null", replace("", "null"))
	makes(t, doc, list(replace("/b", `{ "z":1,"y":2}`)), `{"-":null,"b":{"y":2,"z":1},"d":{}}`, replace("/b", `[1,{"x":2}]`))
	makes(t, doc, list(replace("/-", "1")), `{"-":1,"b":[1,{"x":2}],"d":{}}`, replace("/-", "null"))
	makes(t, doc, list(replace("/d", "{}")), `{"-":null,"b":[1,{"x":2}],"d":{}}`, replace("/d", "{}"))
	makes(t, doc, list(replace("/b/0", "[]")), `{"-":null,"b":[[],{"x":2}],"d":{}}`, replace("/b/0", "1"))
	makes(t, doc, list(replace("/b/1", "5")), `{"-":null,"b":[1,5],"d":{}}`, replace("/b/1", `{"x":2}`))
	makes(t, doc, list(replace("/b/1/x", "null")), `{"-":null,"b":[1,{"x":null}],"d":{}}`, replace("/b/1/x", "2"))
	makes(t, `{"~":{"/":1}}`, list(replace("/~0/~1", "2")), `{"~":{"/":2}}`, replace("/~0/~1", "1"))

	for _, p := range []string{"/a", "/c", "/", "/d/x", "/d/-", "/b/2", "/b/-", "/b/01", "/b/x", "/b/0/0", "/b/0/", "/b/1/y", "/-/x", "/x/y"} {
		fails(t, doc, list(replace(p, "1")), 0, api.ErrNone)
	}
}

// P14, P15
func TestMoveField(t *testing.T) {
	makes(t, `{"a":1,"b":2}`, list(move("/a", "/b")), `{"b":1}`, replace("/b", "2"), add("/a", "1"))
	makes(t, `{"a":1,"b":2}`, list(move("/b", "/a")), `{"a":2}`, replace("/a", "1"), add("/b", "2"))
	makes(t, `{"a":1,"b":2}`, list(move("/a", "/c")), `{"b":2,"c":1}`, remove("/c"), add("/a", "1"))
	makes(t, `{"a":{"x":1},"b":{}}`, list(move("/a/x", "/b/y")), `{"a":{},"b":{"y":1}}`, remove("/b/y"), add("/a/x", "1"))
	makes(t, `{"a":{"x":1},"b":{}}`, list(move("/a", "/b/a")), `{"b":{"a":{"x":1}}}`, remove("/b/a"), add("/a", `{"x":1}`))
	makes(t, `{"a":1,"ab":{}}`, list(move("/a", "/ab/c")), `{"ab":{"c":1}}`, remove("/ab/c"), add("/a", "1"))
	// What is put takes the place of what holds it: that is then without it.
	makes(t, `{"a":{"x":{"y":1},"z":2}}`, list(move("/a/x", "/a")), `{"a":{"y":1}}`, replace("/a", `{"z":2}`), add("/a/x", `{"y":1}`))
	makes(t, `{"a":{"x":1}}`, list(move("/a/x", "")), "1", replace("", `{"a":{}}`), add("/a/x", "1"))
	makes(t, `{"a":[ 1, { "c":1,"b":2} ]}`, list(move("/a", "")), `[1,{"b":2,"c":1}]`, replace("", "{}"), add("/a", `[1,{"b":2,"c":1}]`))
	makes(t, `{"-":1}`, list(move("/-", "/")), `{"":1}`, remove("/"), add("/-", "1"))
	makes(t, `{"/":1}`, list(move("/~1", "/~0")), `{"~":1}`, remove("/~0"), add("/~1", "1"))

	fails(t, `{"a":1}`, list(move("/a", "/b/c")), 0, api.ErrNone)
	fails(t, `{"a":1,"b":2}`, list(move("/a", "/b/c")), 0, api.ErrNone)
	fails(t, `{"a":1}`, list(move("/b", "/c")), 0, api.ErrNone)
	fails(t, `{"a":1}`, list(move("/b", "/a")), 0, api.ErrNone)
	fails(t, `{"a":1}`, list(move("/b", "")), 0, api.ErrNone)
	fails(t, "7", list(move("/a", "/b")), 0, api.ErrNone)
}

// P14, P15
func TestMoveItem(t *testing.T) {
	abc := `["a","b","c"]`
	makes(t, abc, list(move("/0", "/1")), `["b","a","c"]`, remove("/1"), add("/0", `"a"`))
	makes(t, abc, list(move("/0", "/2")), `["b","c","a"]`, remove("/2"), add("/0", `"a"`))
	makes(t, abc, list(move("/0", "/-")), `["b","c","a"]`, remove("/2"), add("/0", `"a"`))
	makes(t, abc, list(move("/1", "/-")), `["a","c","b"]`, remove("/2"), add("/1", `"b"`))
	makes(t, abc, list(move("/2", "/-")), abc, remove("/2"), add("/2", `"c"`))
	makes(t, abc, list(move("/2", "/0")), `["c","a","b"]`, remove("/0"), add("/2", `"c"`))
	makes(t, abc, list(move("/2", "/1")), `["a","c","b"]`, remove("/1"), add("/2", `"c"`))
	makes(t, abc, list(move("/1", "")), `"b"`, replace("", `["a","c"]`), add("/1", `"b"`))
	// Places are those that are left once it is taken out.
	fails(t, abc, list(move("/0", "/3")), 0, api.ErrNone)
	fails(t, abc, list(move("/2", "/3")), 0, api.ErrNone)
	fails(t, abc, list(move("/-", "/0")), 0, api.ErrNone)
	fails(t, abc, list(move("/3", "/0")), 0, api.ErrNone)
	fails(t, abc, list(move("/0", "/01")), 0, api.ErrNone)
	makes(t, "[1,[],[2]]", list(move("/0", "/1/-")), "[[],[2,1]]", remove("/1/1"), add("/0", "1"))
	makes(t, "[1,{}]", list(move("/0", "/0")), "[1,{}]")
	fails(t, "[1,[]]", list(move("/0", "/1/0")), 0, api.ErrNone)
	makes(t, `{"l":[1,2],"o":{}}`, list(move("/l/0", "/o/0")), `{"l":[2],"o":{"0":1}}`, remove("/o/0"), add("/l/0", "1"))
	makes(t, `{"l":[1,2],"o":{"x":3}}`, list(move("/o/x", "/l/-")), `{"l":[1,2,3],"o":{}}`, remove("/l/2"), add("/o/x", "3"))
	makes(t, `{"l":[1,2]}`, list(move("/l/1", "/l")), `{"l":2}`, replace("/l", "[1]"), add("/l/1", "2"))
	makes(t, "[[1,2],3]", list(move("/0/1", "/0")), "[2,[1],3]", remove("/0"), add("/0/1", "2"))
}

// P14, P15: From a beginning of Path, and both the same.
func TestMoveWithin(t *testing.T) {
	doc := `{"a":{"b":[1,{"c":2}]},"ab":{},"":{"":3}}`
	for _, r := range [][2]string{{"", "/a"}, {"", "/"}, {"", "/x"}, {"", "/x/y/z"}, {"/a", "/a/b"}, {"/a", "/a/"}, {"/a", "/a/b/1/c"}, {"/a/b", "/a/b/0"}, {"/a/b", "/a/b/-"}, {"/a/b/1", "/a/b/1/x"}, {"/", "//"},
		// Whether it leads somewhere is of no matter then.
		{"/x", "/x/y"}, {"/a/b/7", "/a/b/7/0"}, {"/a/b/-", "/a/b/-/-"}} {
		fails(t, doc, list(move(r[0], r[1])), 0, api.ErrArg)
	}
	fails(t, "7", list(move("", "/a")), 0, api.ErrArg)
	fails(t, "[[]]", list(move("/0", "/0/0")), 0, api.ErrArg)
	for _, p := range []string{"", "/a", "/a/b", "/a/b/0", "/a/b/1", "/a/b/1/c", "/ab", "/", "//"} {
		makes(t, doc, list(move(p, p)), `{"":{"":3},"a":{"b":[1,{"c":2}]},"ab":{}}`)
	}
	for _, p := range []string{"/b", "/a/b/2", "/a/b/-", "/a/b/01", "/a/b/0/x", "/x/y", "///"} {
		fails(t, doc, list(move(p, p)), 0, api.ErrNone)
	}
	makes(t, "7", list(move("", "")), "7")
}

// P14, P15
func TestCopy(t *testing.T) {
	makes(t, `{"a":1,"b":2}`, list(copied("/a", "/b")), `{"a":1,"b":1}`, replace("/b", "2"))
	makes(t, `{"a":1,"b":2}`, list(copied("/a", "/c")), `{"a":1,"b":2,"c":1}`, remove("/c"))
	makes(t, `{"a":1,"b":2}`, list(copied("/a", "/a")), `{"a":1,"b":2}`, replace("/a", "1"))
	makes(t, `{"a":1,"b":2}`, list(copied("/a", "")), "1", replace("", `{"a":1,"b":2}`))
	makes(t, `{"a":1,"b":2}`, list(copied("", "")), `{"a":1,"b":2}`, replace("", `{"a":1,"b":2}`))
	makes(t, `{"a":{"x":1}}`, list(copied("/a/x", "/a")), `{"a":1}`, replace("/a", `{"x":1}`))
	makes(t, `{"-":1,"l":[]}`, list(copied("/-", "/l/-")), `{"-":1,"l":[1]}`, remove("/l/0"))
	makes(t, "[1,2]", list(copied("/0", "/0")), "[1,1,2]", remove("/0"))
	makes(t, "[1,2]", list(copied("/1", "/0")), "[2,1,2]", remove("/0"))
	makes(t, "[1,2]", list(copied("/0", "/1")), "[1,1,2]", remove("/1"))
	makes(t, "[1,2]", list(copied("/0", "/2")), "[1,2,1]", remove("/2"))
	makes(t, "[1,2]", list(copied("/0", "/-")), "[1,2,1]", remove("/2"))
	makes(t, `{"l":[1,2],"o":{}}`, list(copied("/l", "/o/l")), `{"l":[1,2],"o":{"l":[1,2]}}`, remove("/o/l"))
	// Into itself: what is put is what was there ahead of the step.
	makes(t, `{"a":{"b":1}}`, list(copied("", "/a")), `{"a":{"a":{"b":1}}}`, replace("/a", `{"b":1}`))
	makes(t, `{"a":{"b":1}}`, list(copied("", "/c")), `{"a":{"b":1},"c":{"a":{"b":1}}}`, remove("/c"))
	makes(t, `{"a":{"b":1}}`, list(copied("/a", "/a/b")), `{"a":{"b":{"b":1}}}`, replace("/a/b", "1"))
	makes(t, `{"a":{"b":1}}`, list(copied("/a", "/a/c")), `{"a":{"b":1,"c":{"b":1}}}`, remove("/a/c"))
	makes(t, "[1]", list(copied("", "/-")), "[1,[1]]", remove("/1"))
	makes(t, "[1]", list(copied("", "/0"), copied("/0", "/0/1")), "[[1,[1]],1]", remove("/0/1"), remove("/0"))
	// What was copied is its own from then on.
	makes(t, `{"a":[1]}`, list(copied("/a", "/b"), add("/b/0", "2"), remove("/a/0")), `{"a":[],"b":[2,1]}`, add("/a/0", "1"), remove("/b/0"), remove("/b"))

	for _, r := range [][2]string{{"/x", "/a"}, {"/x", ""}, {"/x", "/x"}, {"/x", "/x/y"}, {"/l/-", "/l/0"}, {"/l/2", "/l/0"}, {"/l/0/", "/a"}, {"/a", "/x/y"}, {"/a", "/a/b"}, {"/a", "/l/3"}, {"/a", "/l/x"}, {"/l", "/l/00"}} {
		fails(t, `{"a":1,"l":[1,2]}`, list(copied(r[0], r[1])), 0, api.ErrNone)
	}
	fails(t, "7", list(copied("", "/a")), 0, api.ErrNone)
}

// P14, P15
func TestTest(t *testing.T) {
	doc := `{"a":{"x":1,"y":[1,"1",null]},"b":null,"-":true}`
	whole := `{"-":true,"a":{"x":1,"y":[1,"1",null]},"b":null}`
	for _, r := range [][2]string{{"", " {\"b\":null,\"a\":{\"y\":[1,\"1\",null],\n\"x\":1},\"-\":true}"}, {"/a", `{"y":[1,"1",null],"x":1}`}, {"/a/x", " 1 "},
		{"/a/y", "[ 1, \"1\" ,null]"}, {"/a/y/0", "1"}, {"/a/y/1", `"1"`}, {"/a/y/2", "null"}, {"/b", "null"}, {"/-", "true"}} {
		makes(t, doc, list(test(r[0], r[1])), whole)
	}
	for _, r := range [][2]string{{"", "{}"}, {"", "null"}, {"/a", `{"x":1}`}, {"/a", `{"x":1,"y":[1,"1",null],"z":null}`}, {"/a/x", `"1"`}, {"/a/x", "-1"}, {"/a/x", "10"}, {"/a/x", "[1]"},
		{"/a/y", `["1",1,null]`}, {"/a/y", `[1,"1"]`}, {"/a/y/1", "1"}, {"/b", "false"}, {"/b", `"null"`}, {"/b", "{}"}, {"/-", "false"}} {
		fails(t, doc, list(test(r[0], r[1])), 0, api.ErrTest)
	}
	for _, p := range []string{"/x", "/", "/a/z", "/a/y/3", "/a/y/-", "/a/y/00", "/a/y/x", "/a/x/0", "/b/0", "/x/y"} {
		fails(t, doc, list(test(p, "null")), 0, api.ErrNone)
	}
	makes(t, doc, list(test("/b", "null"), add("/b", "1"), test("/b", "1"), remove("/a"), test("", `{"b":1,"-":true}`)), `{"-":true,"b":1}`,
		add("/a", `{"x":1,"y":[1,"1",null]}`), replace("/b", "null"))
}

// P14
func TestKinds(t *testing.T) {
	for _, k := range []int{0, 7, 8, -1, -6, 100, 256, 257, 1 << 32, 1<<32 + 1, math.MaxInt, math.MinInt, math.MinInt + 1} {
		fails(t, "{}", []api.Op{{Kind: k, Path: "/a", From: "", Value: "1"}}, 0, api.ErrArg)
		fails(t, "{}", []api.Op{{Kind: k}}, 0, api.ErrArg)
		fails(t, "{}", []api.Op{add("/a", "1"), {Kind: k, Path: "x", From: "x", Value: "x"}}, 1, api.ErrArg)
	}
	fails(t, "{}", make([]api.Op, 40), 0, api.ErrArg)
}

// P14, P15: what a step doesn't name is of no matter.
func TestUnnamed(t *testing.T) {
	for _, junk := range []string{"", "x", "/~", "/a", strings.Repeat("/a", 11), "{", nest(11, ""), "\x00"} {
		makes(t, `{"a":1}`, list(api.Op{Kind: api.OpAdd, Path: "/b", Value: "2", From: junk}), `{"a":1,"b":2}`, remove("/b"))
		makes(t, `{"a":1}`, list(api.Op{Kind: api.OpRemove, Path: "/a", Value: junk, From: junk}), "{}", add("/a", "1"))
		makes(t, `{"a":1}`, list(api.Op{Kind: api.OpReplace, Path: "/a", Value: "2", From: junk}), `{"a":2}`, replace("/a", "1"))
		makes(t, `{"a":1}`, list(api.Op{Kind: api.OpMove, Path: "/b", From: "/a", Value: junk}), `{"b":1}`, remove("/b"), add("/a", "1"))
		makes(t, `{"a":1}`, list(api.Op{Kind: api.OpCopy, Path: "/b", From: "/a", Value: junk}), `{"a":1,"b":1}`, remove("/b"))
		makes(t, `{"a":1}`, list(api.Op{Kind: api.OpTest, Path: "/a", Value: "1", From: junk}), `{"a":1}`)
	}
}

// P14, P15: 40 steps, and more.
func TestMany(t *testing.T) {
	makes(t, "[]", slices.Repeat(list(add("/-", "1")), 40), row(40, "1"), slices.Collect(func(yield func(api.Op) bool) {
		for i := 39; i >= 0; i-- {
			yield(remove("/" + strconv.Itoa(i)))
		}
	})...)
	fails(t, "[]", slices.Repeat(list(add("/-", "1")), 41), 0, api.ErrLarge)
	fails(t, "[]", slices.Repeat(list(test("", "[]")), 41), 0, api.ErrLarge)
	fails(t, "[]", make([]api.Op, 41), 0, api.ErrLarge)
	fails(t, "[]", make([]api.Op, 100000), 0, api.ErrLarge)
	fails(t, "[]", append(slices.Repeat(list(test("", "[]")), 39), test("", "1")), 39, api.ErrTest)
	makes(t, "[]", slices.Repeat(list(test("", "[]")), 40), "[]")
	// A move has two steps that lead back; so there may be more of them than steps.
	there := slices.Repeat(list(move("/a", "/b"), move("/b", "/a")), 20)
	makes(t, `{"a":1}`, there, `{"a":1}`, slices.Repeat(list(remove("/a"), add("/b", "1"), remove("/b"), add("/a", "1")), 20)...)
}

// P14: how many steps stand ahead of the one that has an error.
func TestAhead(t *testing.T) {
	good := list(add("/l/-", "1"), test("/l/0", "1"), copied("/l/0", "/n"), move("/n", "/m"), replace("/m", "2"), remove("/m"), move("/l", "/l"))
	for n := range len(good) + 1 {
		for _, r := range []struct {
			op api.Op
			e  api.Errno
		}{
			{api.Op{}, api.ErrArg}, {add("a", "1"), api.ErrForm}, {add("/l", "x"), api.ErrSyntax}, {add("/x/y", "1"), api.ErrNone},
			{remove(""), api.ErrArg}, {remove("/x"), api.ErrNone}, {replace("/x", "1"), api.ErrNone}, {move("", "/a"), api.ErrArg}, {move("/x", "/y"), api.ErrNone},
			{copied("/x", "/y"), api.ErrNone}, {test("/x", "1"), api.ErrNone}, {test("", "1"), api.ErrTest}, {add("/l", nest(10, "")), api.ErrDeep}, {add("/l", row(199, "1")), api.ErrLarge},
		} {
			ops := append(slices.Clone(good[:n]), r.op)
			fails(t, `{"l":[]}`, ops, n, r.e)
			// Steps behind it are of no matter.
			fails(t, `{"l":[]}`, append(ops, good[n:]...), n, r.e)
			fails(t, `{"l":[]}`, append(ops, api.Op{}, add("x", "x")), n, r.e)
		}
	}
	// A step is not looked at ahead of its turn, and finds what those ahead of it made.
	makes(t, "{}", list(add("/a", "{}"), add("/a/b", "[]"), add("/a/b/0", "1"), move("/a/b/0", "/c")), `{"a":{"b":[]},"c":1}`,
		remove("/c"), add("/a/b/0", "1"), remove("/a/b/0"), remove("/a/b"), remove("/a"))
	fails(t, `{"a":1}`, list(remove("/a"), remove("/a")), 1, api.ErrNone)
	fails(t, `{"a":1}`, list(test("/a", "2"), add("", "x")), 0, api.ErrTest)
	fails(t, `{"a":1}`, list(test("/a", "1"), add("", "x")), 1, api.ErrSyntax)
}

type wrong struct {
	doc string
	e   api.Errno
}

func wrongDocuments() []wrong {
	return []wrong{
		{"", api.ErrSyntax}, {`{"a":}`, api.ErrSyntax}, {"01", api.ErrSyntax}, {"1 1", api.ErrSyntax}, {nest(11, ""), api.ErrDeep}, {`{"a":1,"a":2}`, api.ErrTwice},
		{strings.Repeat(" ", 2001), api.ErrLarge}, {row(200, "1"), api.ErrLarge}, {strings.Repeat("9", 19), api.ErrLarge},
	}
}

// P14: what is wrong is told in the order doc, the number of steps, then step by step: kind, Path, From, Value, what the step does.
func TestOrder(t *testing.T) {
	eleven := strings.Repeat("/a", 11)
	ways := []wrong{{"a", api.ErrForm}, {"/~", api.ErrForm}, {"/a/~2", api.ErrForm}, {eleven, api.ErrLarge}, {eleven + "~", api.ErrForm}}
	withValue, withFrom := []int{api.OpAdd, api.OpReplace, api.OpTest}, []int{api.OpMove, api.OpCopy}
	for _, d := range wrongDocuments() {
		for _, ops := range [][]api.Op{nil, list(add("/a", "1")), {{}}, list(add("a", "x")), make([]api.Op, 41), slices.Repeat(list(remove("")), 50)} {
			fails(t, d.doc, ops, 0, d.e)
		}
		for _, k := range withValue {
			for _, doc := range []string{"{}", "[]", "1", nest(10, "")} {
				for _, p := range []string{"", "/a", "/0", "/x/y", "/-/0"} {
					fails(t, doc, []api.Op{{Kind: k, Path: p, Value: d.doc}}, 0, d.e)
				}
				for _, w := range ways {
					fails(t, doc, []api.Op{{Kind: k, Path: w.doc, Value: d.doc}}, 0, w.e)
				}
			}
			fails(t, "{}", []api.Op{{Kind: k + 6, Path: "a", Value: d.doc}}, 0, api.ErrArg)
		}
	}
	for _, w := range ways {
		for k := api.OpAdd; k <= api.OpTest; k++ {
			fails(t, "1", []api.Op{{Kind: k, Path: w.doc, From: "", Value: "1"}}, 0, w.e)
			fails(t, "1", []api.Op{{Kind: k, Path: w.doc, From: "x~", Value: "{"}}, 0, w.e)
		}
		for _, k := range withFrom {
			for _, p := range []string{"", "/a", "/x/y"} {
				fails(t, `{"a":1}`, []api.Op{{Kind: k, Path: p, From: w.doc}}, 0, w.e)
			}
			fails(t, `{"a":1}`, []api.Op{{Kind: k, Path: eleven, From: w.doc}}, 0, api.ErrLarge)
			fails(t, `{"a":1}`, []api.Op{{Kind: k, Path: "x", From: w.doc}}, 0, api.ErrForm)
		}
		fails(t, "1", []api.Op{{Kind: 0, Path: w.doc, From: w.doc, Value: "x"}}, 0, api.ErrArg)
	}
	// A wrong step behind others comes behind what these do.
	fails(t, "{}", list(remove("/a"), add("x", "x"), api.Op{}), 0, api.ErrNone)
	// What the step does, ahead of what would be made.
	fails(t, nest(10, ""), list(add("/2", nest(10, ""))), 0, api.ErrNone)
	fails(t, nest(10, ""), list(add("/1", nest(10, ""))), 0, api.ErrDeep)
	fails(t, row(199, "1"), list(add("/200", "1")), 0, api.ErrNone)
	fails(t, row(199, "1"), list(add("/199", "1")), 0, api.ErrLarge)
	fails(t, nest(10, ""), list(copied("", "/2")), 0, api.ErrNone)
	fails(t, nest(10, ""), list(copied("", "/1")), 0, api.ErrDeep)
	fails(t, "[1]", list(test("/1", "2")), 0, api.ErrNone)
}

// P8, P14: what is too deep, has too many values or is too long behind a step, also where a later step would mend it.
func TestTold(t *testing.T) {
	ninth, tenth := strings.Repeat("/0", 9), strings.Repeat("/0", 10)
	makes(t, nest(10, ""), list(add(tenth, "1")), nest(10, "1"), remove(tenth))
	makes(t, nest(9, ""), list(add(ninth, "{}")), nest(9, "{}"), remove(ninth))
	fails(t, nest(10, ""), list(add(tenth, "[]")), 0, api.ErrDeep)
	fails(t, nest(10, ""), list(add(tenth, "{}"), remove(tenth)), 0, api.ErrDeep)
	fails(t, nest(10, "1"), list(replace(tenth, "{}"), remove("/0")), 0, api.ErrDeep)
	fails(t, "{}", list(add("/a", "1"), add("/b", nest(10, "")), remove("/b")), 1, api.ErrDeep)
	makes(t, "{}", list(add("/a", nest(9, ""))), `{"a":`+nest(9, "")+"}", remove("/a"))
	makes(t, nest(5, ""), list(copied("", "/0/0/0/0/0")), nest(10, ""), remove("/0/0/0/0/0"))
	fails(t, nest(6, ""), list(copied("", "/0/0/0/0/0"), remove("/0")), 0, api.ErrDeep)
	fails(t, `{"a":`+nest(9, "")+`,"b":[]}`, list(move("/a", "/b/0"), move("/b/0", "/a")), 0, api.ErrDeep)
	makes(t, `{"a":`+nest(8, "")+`,"b":[]}`, list(move("/a", "/b/0")), `{"b":[`+nest(8, "")+"]}", remove("/b/0"), add("/a", nest(8, "")))

	makes(t, row(198, "1"), list(add("/-", "1")), row(199, "1"), remove("/198"))
	fails(t, row(199, "1"), list(add("/-", "1")), 0, api.ErrLarge)
	fails(t, row(199, "1"), list(add("/-", "1"), remove("/0")), 0, api.ErrLarge)
	makes(t, row(199, "1"), list(remove("/0"), add("/-", "1")), row(199, "1"), remove("/198"), add("/0", "1"))
	fails(t, row(199, "1"), list(replace("/0", "[1]")), 0, api.ErrLarge)
	makes(t, row(199, "1"), list(replace("/0", "[]")), "[[],"+row(198, "1")[1:], replace("/0", "1"))
	makes(t, row(99, "1"), list(copied("", "/0")), "["+row(99, "1")+","+row(99, "1")[1:], remove("/0"))
	fails(t, row(100, "1"), list(copied("", "/0"), add("", "1")), 0, api.ErrLarge)
	makes(t, row(199, "1"), list(copied("", "")), row(199, "1"), replace("", row(199, "1")))
	makes(t, row(199, "1"), list(move("/0", "/-")), row(199, "1"), remove("/198"), add("/0", "1"))

	makes(t, "[]", list(add("/0", text(1996))), "["+text(1996)+"]", remove("/0"))
	fails(t, "[]", list(add("/0", text(1997))), 0, api.ErrLarge)
	fails(t, "[]", list(add("/0", text(1997)), remove("/0")), 0, api.ErrLarge)
	makes(t, `{"a":1}`, list(replace("/a", text(1992))), `{"a":`+text(1992)+"}", replace("/a", "1"))
	fails(t, `{"a":1}`, list(test("/a", "1"), replace("/a", text(1993)), replace("/a", "1")), 1, api.ErrLarge)
	makes(t, "["+text(995)+"]", list(copied("/0", "/1")), "["+text(995)+","+text(995)+"]", remove("/1"))
	fails(t, "["+text(997)+"]", list(copied("/0", "/1"), remove("/1")), 0, api.ErrLarge)
	name := strings.Repeat("n", 1994)
	makes(t, `{"a":1}`, list(move("/a", "/"+name)), `{"`+name+`":1}`, remove("/"+name), add("/a", "1"))
	fails(t, `{"a":1}`, list(move("/a", "/"+name+"n")), 0, api.ErrLarge)
	fails(t, `{"a":1}`, list(move("/a", "/"+name+"n"), move("/"+name+"n", "/a")), 0, api.ErrLarge)
	makes(t, "{}", list(add("/"+strings.Repeat(`"`, 997), "1")), `{"`+strings.Repeat(`\"`, 997)+`":1}`, remove("/"+strings.Repeat(`"`, 997)))
	fails(t, "{}", list(add("/"+strings.Repeat(`"`, 998), "1")), 0, api.ErrLarge)
	fails(t, "{}", list(add("/"+strings.Repeat("n", 100000), "1")), 0, api.ErrLarge)
	// It is the canonical document whose bytes are counted.
	makes(t, strings.Repeat(" ", 1000)+"[]", list(add("/-", strings.Repeat(" ", 1000)+"1")), "[1]", remove("/0"))
	// The depth is looked at first.
	fails(t, nest(10, ""), list(add(tenth, row(199, "1"))), 0, api.ErrDeep)
	fails(t, nest(10, ""), list(add(tenth, "["+text(1990)+"]")), 0, api.ErrDeep)
}

// P14: the cases of RFC 6902, its appendix A, as far as this document's errors are its own.
func TestRFC(t *testing.T) {
	makes(t, `{"foo":"bar"}`, list(add("/baz", `"qux"`)), `{"baz":"qux","foo":"bar"}`, remove("/baz"))
	makes(t, `{"foo":["bar","baz"]}`, list(add("/foo/1", `"qux"`)), `{"foo":["bar","qux","baz"]}`, remove("/foo/1"))
	makes(t, `{"baz":"qux","foo":"bar"}`, list(remove("/baz")), `{"foo":"bar"}`, add("/baz", `"qux"`))
	makes(t, `{"foo":["bar","qux","baz"]}`, list(remove("/foo/1")), `{"foo":["bar","baz"]}`, add("/foo/1", `"qux"`))
	makes(t, `{"baz":"qux","foo":"bar"}`, list(replace("/baz", `"boo"`)), `{"baz":"boo","foo":"bar"}`, replace("/baz", `"qux"`))
	makes(t, `{"foo":{"bar":"baz","waldo":"fred"},"qux":{"corge":"grault"}}`, list(move("/foo/waldo", "/qux/thud")),
		`{"foo":{"bar":"baz"},"qux":{"corge":"grault","thud":"fred"}}`, remove("/qux/thud"), add("/foo/waldo", `"fred"`))
	makes(t, `{"foo":["all","grass","cows","eat"]}`, list(move("/foo/1", "/foo/3")), `{"foo":["all","cows","eat","grass"]}`, remove("/foo/3"), add("/foo/1", `"grass"`))
	makes(t, `{"baz":"qux","foo":["a",2,"c"]}`, list(test("/baz", `"qux"`), test("/foo/1", "2")), `{"baz":"qux","foo":["a",2,"c"]}`)
	fails(t, `{"baz":"qux"}`, list(test("/baz", `"bar"`)), 0, api.ErrTest)
	makes(t, `{"foo":"bar"}`, list(add("/child", `{"grandchild":{}}`)), `{"child":{"grandchild":{}},"foo":"bar"}`, remove("/child"))
	fails(t, `{"foo":"bar"}`, list(add("/baz/bat", `"qux"`)), 0, api.ErrNone)
	makes(t, `{"/":9,"~1":10}`, list(test("/~01", "10")), `{"/":9,"~1":10}`)
	fails(t, `{"/":9,"~1":10}`, list(test("/~01", `"10"`)), 0, api.ErrTest)
	makes(t, `{"foo":["bar"]}`, list(add("/foo/-", `["abc","def"]`)), `{"foo":["bar",["abc","def"]]}`, remove("/foo/1"))
}

// P14 names no error for a step with bytes that no document has: the field has that name, and later steps find it.
func TestStrangeNames(t *testing.T) {
	ops := list(add("/\x00\xff", "1"), copied("/\x00\xff", "/a"), test("/\x00\xff", "1"), move("/\x00\xff", "/\x7f"), remove("/\x7f"))
	makes(t, "{}", ops, `{"a":1}`, add("/\x7f", "1"), remove("/\x7f"), add("/\x00\xff", "1"), remove("/a"), remove("/\x00\xff"))
	if s, n, e := patch.Apply("{}", ops[:3]); s != "{\"\x00\xff\":1,\"a\":1}" || n != 3 || e != api.OK {
		t.Errorf("%q, %d, %d", s, n, e)
	}
	fails(t, "[]", list(add("/\xff", "1")), 0, api.ErrNone)
	fails(t, "{}", list(remove("/\xff")), 0, api.ErrNone)
}

func within(s, whole string) bool {
	if s == "" || whole == "" {
		return false
	}
	at, begin := uintptr(unsafe.Pointer(unsafe.StringData(s))), uintptr(unsafe.Pointer(unsafe.StringData(whole)))
	return begin <= at && at < begin+uintptr(len(whole))
}

// owned is the steps with texts that lie in memory of their own.
func owned(ops ...api.Op) []api.Op {
	for i, op := range ops {
		ops[i] = api.Op{Kind: op.Kind, Path: strings.Clone(op.Path), From: strings.Clone(op.From), Value: strings.Clone(op.Value)}
	}
	return ops
}

// P2
func TestMemory(t *testing.T) {
	doc := strings.Clone(`{"abc":"def","list":["ghi",{"jkl":1}]}`)
	ops := owned(replace("/abc", `"xyz"`), move("/list/0", "/list/1"), copied("/abc", "/list/-"), remove("/list/0/jkl"), add("", `"whole"`), add("", `"mno"`), test("", `"mno"`), api.Op{Kind: 99})
	kept := slices.Clone(ops)
	given := ops[:7:8]
	made, _, e := patch.Apply(doc, given)
	back, f := patch.Invert(doc, given)
	if e != api.OK || f != api.OK || made != `"mno"` || len(back) != 7 {
		t.Fatalf("%q, %d, %s, %d", made, e, show(back), f)
	}
	if !slices.Equal(ops, kept) {
		t.Errorf("the steps were changed: %s", show(ops))
	}
	texts := []string{doc}
	for _, op := range ops {
		texts = append(texts, op.Path, op.From, op.Value)
	}
	for _, in := range texts {
		if within(made, in) {
			t.Errorf("%q shares memory with %q", made, in)
		}
		for _, op := range back {
			if within(op.Path, in) || within(op.Value, in) || within(op.From, in) {
				t.Errorf("%v shares memory with %q", op, in)
			}
		}
	}
	if s, _, e := patch.Apply(doc, nil); e != api.OK || s != doc || within(s, doc) {
		t.Errorf("%q, %d: shared memory, or an error", s, e)
	}
}

// P2: nothing is kept from call to call, and no two answers share memory.
func TestAnew(t *testing.T) {
	doc, ops := `{"a":1,"b":2}`, list(move("/a", "/b"), add("/c", "3"), remove("/b"))
	first, _ := patch.Invert(doc, ops)
	want := slices.Clone(first)
	for i := range first[:cap(first)] {
		first[:cap(first)][i] = api.Op{Kind: 77, Path: "x", From: "y", Value: "z"}
	}
	fails(t, doc, list(move("/a", "/b"), remove("/a")), 1, api.ErrNone)
	second, e := patch.Invert(doc, ops)
	if !slices.Equal(second, want) || e != api.OK {
		t.Errorf("%s, %d, want %s", show(second), e, show(want))
	}
	// What leads back may be handed in again: forth once more.
	made, _, _ := patch.Apply(doc, ops)
	forth, e := patch.Invert(made, second)
	if s, _, f := patch.Apply(doc, forth); s != made || e != api.OK || f != api.OK {
		t.Errorf("%q, %d, %d, want %q", s, e, f, made)
	}
}
