package three_test

import (
	"slices"
	"strconv"
	"strings"
	"testing"
	"unsafe"

	"seneschal/api"
	"seneschal/three"
)

func merges(t *testing.T, last, live, want, made string, e api.Errno) {
	t.Helper()
	if got, f := three.Merge(last, live, want); got != made || f != e {
		t.Errorf("Merge(%.80q, %.80q, %.80q) = %.200q, %d, want %.200q, %d", last, live, want, got, f, made, e)
	}
}

func loses(t *testing.T, last, live, want string, e api.Errno, lost ...string) {
	t.Helper()
	if got, f := three.Lost(last, live, want); !slices.Equal(got, lost) || f != e {
		t.Errorf("Lost(%.80q, %.80q, %.80q) = %.200q, %d, want %.200q, %d", last, live, want, got, f, lost, e)
	}
}

// both asks for what is made, and for what is lost by it.
func both(t *testing.T, last, live, want, made string, lost ...string) {
	t.Helper()
	merges(t, last, live, want, made, api.OK)
	loses(t, last, live, want, api.OK, lost...)
}

func nest(n int, inner string) string {
	return strings.Repeat("[", n) + inner + strings.Repeat("]", n)
}

func nestFields(n int, inner string) string {
	return strings.Repeat(`{"a":`, n) + inner + strings.Repeat("}", n)
}

// fields is an object with n fields of that value, named by numbers from first on (of three digits).
func fields(first, n int, value string) string {
	var out []string
	for i := range n {
		out = append(out, `"`+strconv.Itoa(first+i)+`":`+value)
	}
	return "{" + strings.Join(out, ",") + "}"
}

// beside is an object with the fields of two of them, where those of the first one come first.
func beside(a, b string) string {
	return strings.TrimSuffix(a, "}") + "," + b[1:]
}

func noObjects() []string {
	return []string{"null", "false", "7", `"a"`, "[]", `["a"]`, `[{"a":1}]`}
}

// P16, P17: ordinary documents.
func TestOrdinary(t *testing.T) {
	both(t, `{"a":1}`, `{"a":1,"x":9}`, `{"b":2}`, `{"b":2,"x":9}`, "/a")
	both(t, "{}", "{}", "{}", "{}")
	both(t, "{}", `{"a":1}`, "{}", `{"a":1}`)
	both(t, "{}", "{}", `{"a":1}`, `{"a":1}`)
	both(t, "{}", `{"a":1}`, `{"a":2}`, `{"a":2}`)
	both(t, `{"a":1}`, `{"a":2}`, `{"a":1}`, `{"a":1}`)
	both(t, `{"a":1}`, `{"a":1}`, `{"a":1}`, `{"a":1}`)
	both(t, `{"a":1}`, "{}", `{"a":1}`, `{"a":1}`)
	both(t, `{"a":1}`, "{}", "{}", "{}")
	both(t, `{"a":1}`, `{"b":1}`, "{}", `{"b":1}`)
	both(t, `{"a":1}`, `{"a":1}`, "{}", "{}", "/a")
	// Whatever it has become by now.
	both(t, `{"a":1}`, `{"a":2}`, "{}", "{}", "/a")
	both(t, `{"a":1}`, `{"a":{"b":1}}`, "{}", "{}", "/a")
	both(t, `{"a":{"b":1}}`, `{"a":[1]}`, "{}", "{}", "/a")
	both(t, `{"a":1,"b":2,"c":3}`, `{"a":1,"b":2,"c":3,"d":4}`, `{"b":5}`, `{"b":5,"d":4}`, "/a", "/c")
	both(t, " { \"b\" : 1 ,\n\"a\":2}", "\t{\"c\":3 , \"b\":1}\n", ` { "d" : [ 1 , null ] , "a" : 7 } `, `{"a":7,"c":3,"d":[1,null]}`, "/b")
	both(t, "{}", `{"ab":1,"b":2,"":3}`, `{"a":4,"abc":5,"\n":6,"\"":7}`, `{"":3,"\n":6,"\"":7,"a":4,"ab":1,"abc":5,"b":2}`)
}

// P16, P17: objects within objects.
func TestWithin(t *testing.T) {
	both(t, `{"a":1,"o":{"x":1,"y":2}}`, `{"a":1,"x":9,"o":{"x":1,"y":3,"z":4}}`, `{"b":2,"o":{"x":5}}`, `{"b":2,"o":{"x":5,"z":4},"x":9}`, "/a", "/o/y")
	both(t, `{"a":{"b":{"c":1,"d":2},"e":3}}`, `{"a":{"b":{"c":1,"d":2,"x":7},"e":3,"y":8},"z":9}`, `{"a":{"b":{"c":1}}}`, `{"a":{"b":{"c":1,"x":7},"y":8},"z":9}`, "/a/b/d", "/a/e")
	both(t, `{"a":{"b":1}}`, `{"a":{"b":1}}`, `{"a":{}}`, `{"a":{}}`, "/a/b")
	both(t, `{"a":{"b":1}}`, `{"a":{"c":1}}`, `{"a":{}}`, `{"a":{"c":1}}`)
	both(t, `{"a":{"b":1}}`, `{"a":{"b":1,"c":2}}`, `{"a":{"b":3}}`, `{"a":{"b":3,"c":2}}`)
	both(t, "{}", `{"a":{"b":1}}`, `{"a":{}}`, `{"a":{"b":1}}`)
	both(t, `{"b":1}`, `{"a":{"b":1}}`, `{"a":{}}`, `{"a":{"b":1}}`)
	both(t, `{"a":{"a":1}}`, `{"a":{"a":{"a":1}}}`, `{"a":{"a":{}}}`, `{"a":{"a":{"a":1}}}`)
	both(t, `{"a":{"a":{"a":1}}}`, `{"a":{"a":1}}`, `{"a":{}}`, `{"a":{}}`, "/a/a")
	// A field of which all goes is told, not what is within it.
	both(t, `{"a":{"b":{"c":1},"d":2}}`, `{"a":{"b":{"c":1},"d":2}}`, "{}", "{}", "/a")
	both(t, `{"a":{"b":{"c":1},"d":2}}`, `{"a":{"b":{"c":1},"d":2}}`, `{"a":{}}`, `{"a":{}}`, "/a/b", "/a/d")
	both(t, `{"a":{"b":{"c":1},"d":2}}`, `{"a":{"b":{"c":1},"d":2}}`, `{"a":{"b":{}}}`, `{"a":{"b":{}}}`, "/a/b/c", "/a/d")
}

// P16: what is no object takes the place of all that lives; nothing of that is lost, since it is wanted otherwise.
func TestWantNoObject(t *testing.T) {
	some := append(noObjects(), "{}", `{"a":1}`, `{"a":{"b":1},"c":2}`)
	for _, want := range noObjects() {
		for _, last := range some {
			for _, live := range some {
				both(t, last, live, want, want)
				in := func(v string) string { return `{"a":` + v + `}` }
				both(t, in(last), in(live), in(want), in(want))
				both(t, last, in(live), in(want), in(want))
				both(t, in(in(last)), in(in(live)), in(in(want)), in(in(want)))
			}
		}
	}
	both(t, `[1]`, `[1,2]`, " [ 3 ] ", "[3]")
	both(t, `{"a":[1,2]}`, `{"a":[1,2,3],"b":[]}`, `{"a":[2]}`, `{"a":[2],"b":[]}`)
	// Not through lists.
	both(t, `[{"a":1}]`, `[{"a":1,"b":2}]`, "[{}]", "[{}]")
	both(t, `{"l":[{"a":1}]}`, `{"l":[{"a":1,"b":2}]}`, `{"l":[{}]}`, `{"l":[{}]}`)
}

// P16, P17: what is no object gives way to an object, and has no field that would go.
func TestLiveNoObject(t *testing.T) {
	for _, live := range noObjects() {
		for _, last := range []string{"null", "{}", `{"a":1}`, `{"a":1,"b":{"c":1},"0":2}`} {
			both(t, last, live, "{}", "{}")
			both(t, last, live, `{"b":{"d":1}}`, `{"b":{"d":1}}`)
			both(t, last, live, `{"0":{"a":{}},"b":null}`, `{"0":{"a":{}},"b":null}`)
			both(t, `{"x":`+last+`}`, `{"x":`+live+`,"y":1}`, `{"x":{"b":{"d":1}}}`, `{"x":{"b":{"d":1}},"y":1}`)
			both(t, `{"x":`+last+`}`, `{"y":1}`, `{"x":{"b":{"d":1}}}`, `{"x":{"b":{"d":1}},"y":1}`)
		}
	}
	both(t, `{"0":1}`, `["x"]`, "{}", "{}")
	both(t, `{"a":{"0":1}}`, `{"a":["x"]}`, `{"a":{}}`, `{"a":{}}`)
}

// P16, P17: where what was wanted last is no object, nothing goes.
func TestLastNoObject(t *testing.T) {
	for _, last := range noObjects() {
		both(t, last, `{"0":1,"a":1,"b":{"c":2}}`, "{}", `{"0":1,"a":1,"b":{"c":2}}`)
		both(t, last, `{"0":1,"a":1,"b":{"c":2}}`, `{"b":{"d":3}}`, `{"0":1,"a":1,"b":{"c":2,"d":3}}`)
		both(t, `{"x":`+last+`}`, `{"x":{"0":1,"a":1,"b":{"c":2}}}`, `{"x":{"b":{}}}`, `{"x":{"0":1,"a":1,"b":{"c":2}}}`)
		both(t, `{"x":`+last+`}`, `{"x":{"0":1,"a":1}}`, "{}", "{}", "/x")
	}
	both(t, `["x"]`, `{"0":1}`, `{"a":1}`, `{"0":1,"a":1}`)
}

// P16, P17: a null is a value like others, in each of the three.
func TestNulls(t *testing.T) {
	both(t, `{"a":null}`, `{"a":1}`, "{}", "{}", "/a")
	both(t, `{"a":1}`, `{"a":null}`, "{}", "{}", "/a")
	both(t, `{"a":null}`, `{"a":null}`, "{}", "{}", "/a")
	both(t, "{}", `{"a":null}`, "{}", `{"a":null}`)
	both(t, "{}", `{"a":1}`, `{"a":null}`, `{"a":null}`)
	both(t, `{"a":1}`, `{"a":1}`, `{"a":null}`, `{"a":null}`)
	both(t, `{"a":1}`, "{}", `{"a":null}`, `{"a":null}`)
	both(t, `{"a":null}`, `{"a":{"b":1}}`, `{"a":{}}`, `{"a":{"b":1}}`)
	both(t, `{"a":{"b":null}}`, `{"a":null}`, `{"a":{"c":null}}`, `{"a":{"c":null}}`)
	both(t, "null", "null", `{"a":{"b":null}}`, `{"a":{"b":null}}`)
	both(t, `{"a":1}`, `{"a":1}`, "null", "null")
}

// P17: pointers are written with `~0` and `~1`, and rise byte by byte, across depths.
func TestPointers(t *testing.T) {
	all := func(doc string, lost ...string) {
		t.Helper()
		both(t, doc, doc, "{}", "{}", lost...)
	}
	all(`{"":1}`, "/")
	all(`{"~":1,"/":2}`, "/~0", "/~1")
	all(`{"a~1b":1,"a/b":2,"a~0b":3,"a~b":4}`, "/a~00b", "/a~01b", "/a~0b", "/a~1b")
	all(`{"~/":1,"/~":2,"~~":3,"//":4}`, "/~0~0", "/~0~1", "/~1~0", "/~1~1")
	all(`{"\n":1,"\t":2,"\"":3,"\\":4," ":5,"!":6}`, "/\t", "/\n", "/ ", "/!", `/"`, `/\`)
	all(`{"b":1,"B":2,"a":3,"ab":4,"10":5,"9":6,"-":7}`, "/-", "/10", "/9", "/B", "/a", "/ab", "/b")

	// `/` lies between `!` and `0`, so that what is within a field comes between those beside it.
	doc := `{"a":{"b":1},"a!":2,"a0":3,"a/":4,"a~":5,"a\n":6}`
	both(t, doc, doc, `{"a":{}}`, `{"a":{}}`, "/a\n", "/a!", "/a/b", "/a0", "/a~0", "/a~1")
	doc = `{"":{"":{"":1,"!":2},"!":3},"!":4,"/":5}`
	both(t, doc, doc, `{"":{"":{}}}`, `{"":{"":{}}}`, "/!", "//!", "///", "///!", "/~1")
	both(t, doc, doc, `{"":{}}`, `{"":{}}`, "/!", "//", "//!", "/~1")
	doc = `{"a/b":{"c":1},"a":{"b/c":2,"b":{"c":3}}}`
	both(t, doc, doc, `{"a":{"b":{}},"a/b":{}}`, `{"a":{"b":{}},"a/b":{}}`, "/a/b/c", "/a/b~1c", "/a~1b/c")
	doc = `{"~":{"/":1},"/":{"~":1}}`
	both(t, doc, doc, `{"~":{},"/":{}}`, `{"/":{},"~":{}}`, "/~0/~1", "/~1/~0")

	// As many steps as there may be, and more bytes than a document may have.
	both(t, nestFields(10, "1"), nestFields(10, "2"), nestFields(9, "{}"), nestFields(9, "{}"), strings.Repeat("/a", 10))
	name := strings.Repeat("~", 1994)
	all(`{"`+name+`":1}`, "/"+strings.Repeat("~0", 1994))
}

// P8, P16: what is made is told. (It lies as deep as it lay in live or in want, so it is never too deep.)
func TestTold(t *testing.T) {
	text := func(n int) string { return `"` + strings.Repeat("x", n) + `"` }
	live := `{"a":` + text(1000) + `}`
	for n := 980; n <= 990; n++ {
		made, e := `{"a":`+text(1000)+`,"b":`+text(n)+`}`, api.OK
		if len(made) > 2000 {
			made, e = "", api.ErrLarge
		}
		merges(t, "{}", live, `{"b":`+text(n)+`}`, made, e)
	}
	merges(t, `{"a":1}`, live, `{"b":`+text(1500)+`}`, `{"b":`+text(1500)+`}`, api.OK)
	merges(t, `{"a":1}`, `{"a":`+text(1900)+`,"c":3}`, `{"b":`+text(1900)+`}`, `{"b":`+text(1900)+`,"c":3}`, api.OK)

	merges(t, "{}", fields(100, 100, "1"), fields(200, 99, "2"), beside(fields(100, 100, "1"), fields(200, 99, "2")), api.OK)
	merges(t, "{}", fields(100, 100, "1"), fields(200, 100, "2"), "", api.ErrLarge)
	merges(t, "{}", fields(100, 199, "1"), `{"x":[]}`, "", api.ErrLarge)
	merges(t, `{"100":0}`, fields(100, 199, "1"), `{"x":[]}`, beside(fields(101, 198, "1"), `{"x":[]}`), api.OK)
	merges(t, fields(100, 199, "0"), fields(100, 199, "1"), fields(250, 199, "2"), fields(250, 199, "2"), api.OK)
	merges(t, "{}", fields(100, 150, "1"), `{"x":`+fields(100, 49, "1")+`}`, "", api.ErrLarge)

	deep := `{"b":` + nest(9, "1") + `}`
	merges(t, "{}", deep, nestFields(10, "1"), beside(nestFields(10, "1"), deep), api.OK)
	merges(t, "{}", nestFields(10, "1"), deep, beside(nestFields(10, "1"), deep), api.OK)
	merges(t, "{}", nestFields(10, "1"), nestFields(9, "[2]"), nestFields(9, "[2]"), api.OK)
	merges(t, "{}", nestFields(9, `{"b":1}`), nestFields(10, "2"), nestFields(9, `{"a":2,"b":1}`), api.OK)
	merges(t, nest(10, "1"), nest(10, "1"), nest(10, "2"), nest(10, "2"), api.OK)
}

// P8, P17: what is made is no business of Lost.
func TestLostOfLarge(t *testing.T) {
	last := `{"100":1,"150":1,"999":1,"x":1}`
	live, want := fields(100, 150, "1"), fields(300, 150, "2")
	merges(t, last, live, want, "", api.ErrLarge)
	loses(t, last, live, want, api.OK, "/100", "/150")
	loses(t, "{}", live, want, api.OK)
	live, want = `{"a":"`+strings.Repeat("x", 1500)+`","b":{"c":1}}`, `{"b":{"d":"`+strings.Repeat("x", 1500)+`"}}`
	merges(t, `{"b":{"c":1}}`, live, want, "", api.ErrLarge)
	loses(t, `{"b":{"c":1}}`, live, want, api.OK, "/b/c")

	var lost []string
	for i := range 199 {
		lost = append(lost, "/"+strconv.Itoa(100+i))
	}
	both(t, fields(100, 199, "1"), fields(100, 199, "1"), "{}", "{}", lost...)
}

// P16, P17: what is wrong with last, then with live, then with want.
func TestWrong(t *testing.T) {
	wrong := []struct {
		s string
		e api.Errno
	}{
		{"", api.ErrSyntax},
		{"{", api.ErrSyntax},
		{"x", api.ErrSyntax},
		{"{} {}", api.ErrSyntax},
		{"\xff", api.ErrSyntax},
		{nest(11, ""), api.ErrDeep},
		{`{"a":1,"a":1}`, api.ErrTwice},
		{"1234567890123456789", api.ErrLarge},
		{fields(100, 200, "1"), api.ErrLarge},
		{strings.Repeat(" ", 2001), api.ErrLarge},
	}
	fails := func(last, live, want string, e api.Errno) {
		t.Helper()
		merges(t, last, live, want, "", e)
		loses(t, last, live, want, e)
	}
	good := append(noObjects(), "{}", `{"a":1}`, fields(100, 199, "1"))
	for _, w := range wrong {
		for _, g := range good {
			for _, h := range good {
				fails(w.s, g, h, w.e)
				fails(g, w.s, h, w.e)
				fails(g, h, w.s, w.e)
			}
			for _, x := range wrong {
				fails(w.s, x.s, g, w.e)
				fails(w.s, g, x.s, w.e)
				fails(g, w.s, x.s, w.e)
			}
		}
		for _, x := range wrong {
			for _, y := range wrong {
				fails(w.s, x.s, y.s, w.e)
			}
		}
	}
	// What is wrong is told ahead of what would be too large.
	fails("x", fields(100, 150, "1"), fields(300, 150, "1"), api.ErrSyntax)
	merges(t, "1", fields(100, 150, "1"), fields(300, 150, "1"), "", api.ErrLarge)
}

func within(s, whole string) bool {
	if s == "" || whole == "" {
		return false
	}
	at, begin := uintptr(unsafe.Pointer(unsafe.StringData(s))), uintptr(unsafe.Pointer(unsafe.StringData(whole)))
	return begin <= at && at < begin+uintptr(len(whole))
}

func shares(s, whole string) bool {
	return within(s, whole) || within(whole, s)
}

// P2: what is told is new memory.
func TestMemory(t *testing.T) {
	docs := []string{"null", `"abc"`, "[1,2]", "{}", `{"a":{"b":"c"}}`, `{"a":{"b":1,"c":2},"d":3}`, `{"/a":1,"/":{"/":1}}`}
	for _, last := range docs {
		for _, live := range docs {
			for _, want := range docs {
				last, live, want := strings.Clone(last), strings.Clone(live), strings.Clone(want)
				made, _ := three.Merge(last, live, want)
				lost, _ := three.Lost(last, live, want)
				for _, s := range append([]string{made}, lost...) {
					if shares(s, last) || shares(s, live) || shares(s, want) {
						t.Errorf("of %s, %s, %s: %s shares memory with what was handed in", last, live, want, s)
					}
				}
			}
		}
	}
}

// P2: nothing is kept from call to call.
func TestAnew(t *testing.T) {
	last, live, want := `{"a":1,"b":{"c":1,"d":2},"e":3}`, `{"a":1,"b":{"c":1,"d":2},"x":4}`, `{"b":{"c":5}}`
	first, _ := three.Lost(last, live, want)
	room := first[:cap(first)]
	for i := range room {
		room[i] = "spoilt"
	}
	three.Merge(want, last, live)
	both(t, last, live, want, `{"b":{"c":5},"x":4}`, "/a", "/b/d")
	for i := range room {
		if room[i] != "spoilt" {
			t.Errorf("a list that was answered has become %q", room)
		}
	}
}
