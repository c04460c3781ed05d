package fields_test

import (
	"slices"
	"strconv"
	"strings"
	"testing"

	"seneschal/api"
	"seneschal/fields"
)

func hasLeaves(t *testing.T, doc string, leaves ...string) {
	t.Helper()
	if l, e := fields.Leaves(doc); !slices.Equal(l, leaves) || e != api.OK {
		t.Errorf("Leaves(%.80q) = %.200q, %d, want %.200q", doc, l, e, leaves)
	}
}

func nest(n int, inner string) string {
	return strings.Repeat("[", n) + inner + strings.Repeat("]", n)
}

func nestFields(n int, inner string) string {
	return strings.Repeat(`{"a":`, n) + inner + strings.Repeat("}", n)
}

// row is an object with n fields of that value, named by numbers from first on (of three digits).
func row(first, n int, value string) string {
	var out []string
	for i := range n {
		out = append(out, `"`+strconv.Itoa(first+i)+`":`+value)
	}
	return "{" + strings.Join(out, ",") + "}"
}

// rowPaths is the pointers to the fields of such an object.
func rowPaths(first, n int) []string {
	var out []string
	for i := range n {
		out = append(out, "/"+strconv.Itoa(first+i))
	}
	return out
}

func noObjects() []string {
	return []string{"null", "false", "7", `"a"`, "[]", `["a"]`, `[{"a":1}]`, "[{}]"}
}

type mistake struct {
	s string
	e api.Errno
}

// mistakes is texts that are no documents.
func mistakes() []mistake {
	return []mistake{
		{"", api.ErrSyntax},
		{"{", api.ErrSyntax},
		{"{} {}", api.ErrSyntax},
		{"\xff", api.ErrSyntax},
		{nest(11, ""), api.ErrDeep},
		{nestFields(11, "1"), api.ErrDeep},
		{`{"a":1,"a":1}`, api.ErrTwice},
		{"1234567890123456789", api.ErrLarge},
		{row(100, 200, "1"), api.ErrLarge},
		{strings.Repeat(" ", 2001), api.ErrLarge},
	}
}

// P25: what is wrong with the document.
func TestLeavesOfNoDocument(t *testing.T) {
	for _, w := range mistakes() {
		if l, e := fields.Leaves(w.s); len(l) != 0 || e != w.e {
			t.Errorf("Leaves(%.80q) = %q, %d, want %d", w.s, l, e, w.e)
		}
	}
}

// P25: values that are no objects, and objects without fields, through objects alone.
func TestLeaves(t *testing.T) {
	hasLeaves(t, `{"a":{"b":1,"c":{}},"d":[{}]}`, "/a/b", "/a/c", "/d")
	hasLeaves(t, "\t{ \"b\" : {\n\"d\" : [ 1 , { \"x\" : 2 } ] } , \"a\" : null } ", "/a", "/b/d")
	hasLeaves(t, `{"a":{"b":{"c":{"d":1,"e":{}},"f":2},"g":{"h":[]}},"i":true}`, "/a/b/c/d", "/a/b/c/e", "/a/b/f", "/a/g/h", "/i")
	for _, v := range noObjects() {
		hasLeaves(t, `{"a":`+v+`}`, "/a")
		hasLeaves(t, nestFields(4, v), "/a/a/a/a")
		hasLeaves(t, `{"b":`+v+`,"a":{"x":`+v+`,"":`+v+`}}`, "/a/", "/a/x", "/b")
		// The whole is one, where it is no object.
		hasLeaves(t, v, "")
		hasLeaves(t, " "+v+"\n", "")
	}
	// A list is one leaf, whatever it has.
	hasLeaves(t, `{"a":[1,[2],{"b":{"c":3}},{}]}`, "/a")
	hasLeaves(t, `[{"a":1},{"b":{}}]`, "")
	hasLeaves(t, row(100, 199, "1"), rowPaths(100, 199)...)
}

// P25: objects without fields are leaves within others, and none as the whole document.
func TestLeavesEmpty(t *testing.T) {
	hasLeaves(t, "{}")
	hasLeaves(t, " {\n} ")
	for n := 1; n <= 9; n++ {
		hasLeaves(t, nestFields(n, "{}"), strings.Repeat("/a", n))
	}
	hasLeaves(t, nestFields(10, "1"), strings.Repeat("/a", 10))
	hasLeaves(t, nestFields(9, "[]"), strings.Repeat("/a", 9))
	hasLeaves(t, `{"a":{},"b":{"c":{},"d":{"e":{}}}}`, "/a", "/b/c", "/b/d/e")
	hasLeaves(t, `{"":{"":{}}}`, "//")
}

// P25: names are written with `~0` and `~1`; pointers rise byte by byte, whatever their steps do.
func TestLeavesRise(t *testing.T) {
	hasLeaves(t, `{"~":1,"/":2,"":3}`, "/", "/~0", "/~1")
	hasLeaves(t, `{"a~1b":1,"a/b":2,"a~0b":3,"a~b":4}`, "/a~00b", "/a~01b", "/a~0b", "/a~1b")
	hasLeaves(t, `{"/":{"~":{"~/":1}},"~":{"/":{"//":[]}}}`, "/~0/~1/~1~1", "/~1/~0/~0~1")
	hasLeaves(t, `{"a":{"b":1},"a!":2,"a0":3,"a/":4,"a~":5,"a\n":6,"a\t":7}`, "/a\t", "/a\n", "/a!", "/a/b", "/a0", "/a~0", "/a~1")
	hasLeaves(t, `{"":{"":{"":1,"!":2},"!":3},"!":4,"/":5}`, "/!", "//!", "///", "///!", "/~1")
	hasLeaves(t, `{"a/b":{"c":1},"a":{"b/c":2,"b":{"c":3}}}`, "/a/b/c", "/a/b~1c", "/a~1b/c")
	hasLeaves(t, `{"b":1,"B":2,"a":3,"ab":4,"10":5,"9":6,"-":7}`, "/-", "/10", "/9", "/B", "/a", "/ab", "/b")
	hasLeaves(t, `{"\"":1,"\\":2," ":3}`, "/ ", `/"`, `/\`)
	name := strings.Repeat("~/", 990)
	hasLeaves(t, `{"`+name+`":1}`, "/"+strings.Repeat("~0~1", 990))
}
