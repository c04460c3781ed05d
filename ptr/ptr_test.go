package ptr_test

import (
	"slices"
	"strings"
	"testing"
	"unsafe"

	"seneschal/api"
	"seneschal/ptr"
)

func steps(t *testing.T, p string, want []string, e api.Errno) {
	t.Helper()
	if got, f := ptr.Steps(p); !slices.Equal(got, want) || f != e {
		t.Errorf("Steps(%.80q) = %.80q, %d, want %.80q, %d", p, got, f, want, e)
	}
}

func join(t *testing.T, steps []string, want string, e api.Errno) {
	t.Helper()
	if got, f := ptr.Join(steps); got != want || f != e {
		t.Errorf("Join(%.80q) = %.80q, %d, want %.80q, %d", steps, got, f, want, e)
	}
}

func get(t *testing.T, doc, p, want string, e api.Errno) {
	t.Helper()
	if got, f := ptr.Get(doc, p); got != want || f != e {
		t.Errorf("Get(%.80q, %.80q) = %.80q, %d, want %.80q, %d", doc, p, got, f, want, e)
	}
}

func put(t *testing.T, doc, p, v, want string, e api.Errno) {
	t.Helper()
	if got, f := ptr.Put(doc, p, v); got != want || f != e {
		t.Errorf("Put(%.80q, %.80q, %.80q) = %.80q, %d, want %.80q, %d", doc, p, v, got, f, want, e)
	}
}

func cut(t *testing.T, doc, p, want string, e api.Errno) {
	t.Helper()
	if got, f := ptr.Cut(doc, p); got != want || f != e {
		t.Errorf("Cut(%.80q, %.80q) = %.80q, %d, want %.80q, %d", doc, p, got, f, want, e)
	}
}

func nest(n int, inner string) string {
	return strings.Repeat("[", n) + inner + strings.Repeat("]", n)
}

// row is a list of n times item.
func row(n int, item string) string {
	return "[" + strings.TrimSuffix(strings.Repeat(item+",", n), ",") + "]"
}

// P9
func TestSteps(t *testing.T) {
	steps(t, "", nil, api.OK)
	steps(t, "/", []string{""}, api.OK)
	steps(t, "//", []string{"", ""}, api.OK)
	steps(t, "/a", []string{"a"}, api.OK)
	steps(t, "/a/", []string{"a", ""}, api.OK)
	steps(t, "/a//b", []string{"a", "", "b"}, api.OK)
	steps(t, "/a/b/0/-", []string{"a", "b", "0", "-"}, api.OK)
	steps(t, "/a b/\"\\", []string{"a b", `"\`}, api.OK)
	steps(t, "/\x00\n\xff/\x80", []string{"\x00\n\xff", "\x80"}, api.OK)

	steps(t, "/~0", []string{"~"}, api.OK)
	steps(t, "/~1", []string{"/"}, api.OK)
	steps(t, "/~01", []string{"~1"}, api.OK)
	steps(t, "/~10", []string{"/0"}, api.OK)
	steps(t, "/~00", []string{"~0"}, api.OK)
	steps(t, "/~0~1~0/~1~1", []string{"~/~", "//"}, api.OK)
	steps(t, "/~001/x~0y~1z", []string{"~01", "x~y/z"}, api.OK)

	steps(t, strings.Repeat("/", 10), make([]string, 10), api.OK)
	steps(t, "/0/1/2/3/4/5/6/7/8/9", strings.Split("0123456789", ""), api.OK)
	steps(t, strings.Repeat("/~1", 10), slices.Repeat([]string{"/"}, 10), api.OK)
	long := strings.Repeat("x", 3000)
	steps(t, "/"+long, []string{long}, api.OK)
}

// P9
func TestStepsWrong(t *testing.T) {
	for _, p := range []string{"a", "a/b", " /a", "~1a", "~", "~0", "0", "-", "\x00",
		"/~", "/~2", "/~/a", "/a~", "/a/~", "/~~", "/~~0", "/~~01", "/~0~", "/~x", "/~ 0", "/~\x00", "/~\xb0",
		"/~/0", "/a/b~/1", "/~-1", "/~.", "/~:"} {
		steps(t, p, nil, api.ErrForm)
	}
	steps(t, strings.Repeat("/", 11), nil, api.ErrLarge)
	steps(t, strings.Repeat("/a", 11), nil, api.ErrLarge)
	steps(t, strings.Repeat("/~1", 11), nil, api.ErrLarge)
	steps(t, strings.Repeat("/a", 5000), nil, api.ErrLarge)

	// The form is looked at ahead of the number of steps, to the end.
	steps(t, strings.Repeat("/a", 11)+"~", nil, api.ErrForm)
	steps(t, strings.Repeat("/a", 11)+"/~2/b", nil, api.ErrForm)
	steps(t, "/~"+strings.Repeat("/a", 11), nil, api.ErrForm)
	steps(t, "a"+strings.Repeat("/a", 11), nil, api.ErrForm)
}

// P9
func TestJoin(t *testing.T) {
	join(t, nil, "", api.OK)
	join(t, []string{}, "", api.OK)
	join(t, []string{""}, "/", api.OK)
	join(t, []string{"", ""}, "//", api.OK)
	join(t, []string{"a"}, "/a", api.OK)
	join(t, []string{"a", "", "b"}, "/a//b", api.OK)
	join(t, []string{"~"}, "/~0", api.OK)
	join(t, []string{"/"}, "/~1", api.OK)
	join(t, []string{"~1", "~0", "/0"}, "/~01/~00/~10", api.OK)
	join(t, []string{"~/~", "//", "~~"}, "/~0~1~0/~1~1/~0~0", api.OK)
	join(t, []string{"\x00\xff", "\n"}, "/\x00\xff/\n", api.OK)
	join(t, make([]string, 10), "//////////", api.OK)
	join(t, make([]string, 11), "", api.ErrLarge)
	join(t, slices.Repeat([]string{"a"}, 10), strings.Repeat("/a", 10), api.OK)
	join(t, slices.Repeat([]string{"a"}, 12), "", api.ErrLarge)
	long := strings.Repeat("/", 3000)
	join(t, []string{long}, "/"+strings.Repeat("~1", 3000), api.OK)
}

// P10
func TestGet(t *testing.T) {
	doc := `{ "b":[1, true, [], {"x":null,"":"e"}] ,"a":"x", "":{"":[7]}, "0":"nought", "-":"bar", "a/b":1, "m~n":2, "~1":3, "q\"r\\":4, "l\n\t":5 }`
	get(t, doc, "/b/0", "1", api.OK)
	get(t, doc, "/b/1", "true", api.OK)
	get(t, doc, "/b/2", "[]", api.OK)
	get(t, doc, "/b/3", `{"":"e","x":null}`, api.OK)
	get(t, doc, "/b/3/x", "null", api.OK)
	get(t, doc, "/b/3/", `"e"`, api.OK)
	get(t, doc, "/b", `[1,true,[],{"":"e","x":null}]`, api.OK)
	get(t, doc, "/a", `"x"`, api.OK)
	get(t, doc, "/", `{"":[7]}`, api.OK)
	get(t, doc, "//", "[7]", api.OK)
	get(t, doc, "///0", "7", api.OK)
	get(t, doc, "/0", `"nought"`, api.OK)
	get(t, doc, "/-", `"bar"`, api.OK)
	get(t, doc, "/a~1b", "1", api.OK)
	get(t, doc, "/m~0n", "2", api.OK)
	get(t, doc, "/~01", "3", api.OK)
	get(t, doc, `/q"r\`, "4", api.OK)
	get(t, doc, "/l\n\t", "5", api.OK)

	get(t, " [ 1 , {\"b\" : 2,\n\"a\":3 } ]\t", "", `[1,{"a":3,"b":2}]`, api.OK)
	get(t, " null ", "", "null", api.OK)
	get(t, "-5", "", "-5", api.OK)
	get(t, nest(10, "1"), strings.Repeat("/0", 10), "1", api.OK)
	get(t, nest(10, ""), strings.Repeat("/0", 9), "[]", api.OK)
	get(t, row(199, "1"), "/198", "1", api.OK)

	for _, p := range []string{"/c", "/A", "/a ", "/ab", "/~0", "/~1", "/1", "/b/x", "/b/", "/a/0", "/a/x", "/a/", "/b/0/0", "/b/0/", "/b/1/x", "/b/3/x/y", "/b/3/x/0", "/b/2/0", "/b/4", "/b/-", "/c/d/e", "/b/9/0", `/q\"r\\`, `/l\n\t`, "/\x00", "/a/b"} {
		get(t, doc, p, "", api.ErrNone)
	}
}

// P10
func TestPlaces(t *testing.T) {
	list := "[10,11,12,13,14,15,16,17,18,19,20]"
	get(t, list, "/0", "10", api.OK)
	get(t, list, "/9", "19", api.OK)
	get(t, list, "/10", "20", api.OK)
	for _, step := range []string{"11", "12", "-", "-0", "-1", "-10", "+0", "+1", "00", "01", "010", "001", "0x1", "0b1", "1_0", "1e0", "1.0", " 1", "1 ", "1a", "a1", "",
		"1\x00", "\xb1", "/", ":", "18446744073709551616", "18446744073709551617", "9223372036854775807", "9223372036854775808", "4294967296", "4294967297",
		"100000000000000000000000000000000000000000", strings.Repeat("9", 3000), strings.Repeat("0", 300), strings.Repeat("0", 300) + "1"} {
		p, _ := ptr.Join([]string{step})
		get(t, list, p, "", api.ErrNone)
		cut(t, list, p, "", api.ErrNone)
		if step != "11" && step != "-" {
			put(t, list, p, "1", "", api.ErrNone)
			put(t, "[0,"+list+"]", "/1"+p, "1", "", api.ErrNone)
		}
	}
	put(t, list, "/0", "1", "[1,11,12,13,14,15,16,17,18,19,20]", api.OK)
	put(t, list, "/10", "1", "[10,11,12,13,14,15,16,17,18,19,1]", api.OK)
	put(t, list, "/11", "1", "[10,11,12,13,14,15,16,17,18,19,20,1]", api.OK)
	put(t, list, "/-", "1", "[10,11,12,13,14,15,16,17,18,19,20,1]", api.OK)
	put(t, "[]", "/0", "1", "[1]", api.OK)
	put(t, "[]", "/-", "1", "[1]", api.OK)
	put(t, "[]", "/1", "1", "", api.ErrNone)
	put(t, "[]", "/", "1", "", api.ErrNone)
	cut(t, list, "/0", "[11,12,13,14,15,16,17,18,19,20]", api.OK)
	cut(t, list, "/5", "[10,11,12,13,14,16,17,18,19,20]", api.OK)
	cut(t, list, "/10", "[10,11,12,13,14,15,16,17,18,19]", api.OK)
	cut(t, "[1]", "/0", "[]", api.OK)
	cut(t, "[]", "/0", "", api.ErrNone)
}

// P10
func TestPut(t *testing.T) {
	doc := `{"b":[1,{"x":2,"z":[]}],"d":{}, "f":null}`
	put(t, doc, "", ` [ 2 , {"b":1, "a":2}] `, `[2,{"a":2,"b":1}]`, api.OK)
	put(t, doc, "", "null", "null", api.OK)
	put(t, "1", "", doc, `{"b":[1,{"x":2,"z":[]}],"d":{},"f":null}`, api.OK)

	put(t, doc, "/b", "0", `{"b":0,"d":{},"f":null}`, api.OK)
	put(t, doc, "/f", ` "x" `, `{"b":[1,{"x":2,"z":[]}],"d":{},"f":"x"}`, api.OK)
	put(t, doc, "/a", "0", `{"a":0,"b":[1,{"x":2,"z":[]}],"d":{},"f":null}`, api.OK)
	put(t, doc, "/c", "0", `{"b":[1,{"x":2,"z":[]}],"c":0,"d":{},"f":null}`, api.OK)
	put(t, doc, "/g", "null", `{"b":[1,{"x":2,"z":[]}],"d":{},"f":null,"g":null}`, api.OK)
	put(t, doc, "/", "0", `{"":0,"b":[1,{"x":2,"z":[]}],"d":{},"f":null}`, api.OK)
	put(t, doc, "/d/", "{}", `{"b":[1,{"x":2,"z":[]}],"d":{"":{}},"f":null}`, api.OK)
	put(t, doc, "/d/-", "1", `{"b":[1,{"x":2,"z":[]}],"d":{"-":1},"f":null}`, api.OK)
	put(t, doc, "/d/01", "1", `{"b":[1,{"x":2,"z":[]}],"d":{"01":1},"f":null}`, api.OK)
	put(t, doc, "/b/0", "[3]", `{"b":[[3],{"x":2,"z":[]}],"d":{},"f":null}`, api.OK)
	put(t, doc, "/b/1", "3", `{"b":[1,3],"d":{},"f":null}`, api.OK)
	put(t, doc, "/b/2", "3", `{"b":[1,{"x":2,"z":[]},3],"d":{},"f":null}`, api.OK)
	put(t, doc, "/b/-", "3", `{"b":[1,{"x":2,"z":[]},3],"d":{},"f":null}`, api.OK)
	put(t, doc, "/b/1/x", "3", `{"b":[1,{"x":3,"z":[]}],"d":{},"f":null}`, api.OK)
	put(t, doc, "/b/1/y", "3", `{"b":[1,{"x":2,"y":3,"z":[]}],"d":{},"f":null}`, api.OK)
	put(t, doc, "/b/1/z/-", "3", `{"b":[1,{"x":2,"z":[3]}],"d":{},"f":null}`, api.OK)
	put(t, "{}", "/~0~1~01", "1", `{"~/~1":1}`, api.OK)
	put(t, "{}", "/\"\\\n\t", "1", `{"\"\\\n\t":1}`, api.OK)
	put(t, `{"~1":1,"/":2}`, "/~1", "3", `{"/":3,"~1":1}`, api.OK)
	put(t, nest(10, "1"), strings.Repeat("/0", 10), "2", nest(10, "2"), api.OK)

	for _, p := range []string{"/b/3", "/b/x", "/b/", "/b/-/x", "/b/2/x", "/b/0/x", "/b/0/0", "/b/0/-", "/b/1/x/y", "/f/x", "/f/0", "/f/-", "/f/", "/x/y", "/d/x/y", "/b/1/z/1", "/b/1/z/x", "/b/01", "/b/+1", "/b/-1"} {
		put(t, doc, p, "3", "", api.ErrNone)
	}
	for _, doc := range []string{"null", "true", "false", "0", `""`, `"ab"`} {
		for _, p := range []string{"/", "/0", "/-", "/a", "/a/b"} {
			put(t, doc, p, "1", "", api.ErrNone)
			get(t, doc, p, "", api.ErrNone)
			cut(t, doc, p, "", api.ErrNone)
			put(t, `{"a":`+doc+`}`, "/a"+p, "1", "", api.ErrNone)
			put(t, "["+doc+"]", "/0"+p, "1", "", api.ErrNone)
		}
	}
}

// P10
func TestCut(t *testing.T) {
	doc := `{"d":{}, "b":[1,{"x":2,"z":[5,6,7]}], "":null }`
	cut(t, doc, "/b", `{"":null,"d":{}}`, api.OK)
	cut(t, doc, "/d", `{"":null,"b":[1,{"x":2,"z":[5,6,7]}]}`, api.OK)
	cut(t, doc, "/", `{"b":[1,{"x":2,"z":[5,6,7]}],"d":{}}`, api.OK)
	cut(t, doc, "/b/0", `{"":null,"b":[{"x":2,"z":[5,6,7]}],"d":{}}`, api.OK)
	cut(t, doc, "/b/1", `{"":null,"b":[1],"d":{}}`, api.OK)
	cut(t, doc, "/b/1/x", `{"":null,"b":[1,{"z":[5,6,7]}],"d":{}}`, api.OK)
	cut(t, doc, "/b/1/z/0", `{"":null,"b":[1,{"x":2,"z":[6,7]}],"d":{}}`, api.OK)
	cut(t, doc, "/b/1/z/1", `{"":null,"b":[1,{"x":2,"z":[5,7]}],"d":{}}`, api.OK)
	cut(t, doc, "/b/1/z/2", `{"":null,"b":[1,{"x":2,"z":[5,6]}],"d":{}}`, api.OK)
	cut(t, `{"a":1}`, "/a", "{}", api.OK)
	cut(t, `{"a/b":1,"a~1b":2}`, "/a~1b", `{"a~1b":2}`, api.OK)
	cut(t, nest(10, "1"), strings.Repeat("/0", 10), nest(10, ""), api.OK)

	for _, doc := range []string{doc, "1", "{}", "[]"} {
		cut(t, doc, "", "", api.ErrArg)
	}
	for _, p := range []string{"/a", "/c", "/e", "//", "/d/x", "/b/2", "/b/-", "/b/00", "/b/x", "/b/", "/b/0/0", "/b/1/y", "/b/1/z/3", "/x/y"} {
		cut(t, doc, p, "", api.ErrNone)
	}
}

// P10: what is wrong is told in the order doc, p, v, where p leads.
func TestOrder(t *testing.T) {
	docs := []struct {
		doc string
		e   api.Errno
	}{
		{"", api.ErrSyntax}, {`{"a":}`, api.ErrSyntax}, {"01", api.ErrSyntax}, {nest(11, ""), api.ErrDeep}, {`{"a":1,"a":2}`, api.ErrTwice},
		{strings.Repeat(" ", 2001), api.ErrLarge}, {row(200, "1"), api.ErrLarge},
	}
	eleven := strings.Repeat("/a", 11)
	for _, d := range docs {
		for _, p := range []string{"", "/a", "a", "/~", eleven} {
			get(t, d.doc, p, "", d.e)
			cut(t, d.doc, p, "", d.e)
			put(t, d.doc, p, "1", "", d.e)
			put(t, d.doc, p, "x", "", d.e)
			put(t, d.doc, p, nest(11, ""), "", d.e)
		}
		// what is wrong with v
		for _, doc := range []string{"{}", "[]", "1"} {
			for _, p := range []string{"", "/a", "/0", "/x/y"} {
				put(t, doc, p, d.doc, "", d.e)
			}
			put(t, doc, "a", d.doc, "", api.ErrForm)
			put(t, doc, eleven, d.doc, "", api.ErrLarge)
			put(t, doc, eleven+"~", d.doc, "", api.ErrForm)
		}
	}
	for _, doc := range []string{"{}", "[]", "1", `{"a":1}`} {
		for _, p := range []string{"a", "/~", "/a/~2", "~0"} {
			get(t, doc, p, "", api.ErrForm)
			cut(t, doc, p, "", api.ErrForm)
			put(t, doc, p, "1", "", api.ErrForm)
		}
		get(t, doc, eleven, "", api.ErrLarge)
		cut(t, doc, eleven, "", api.ErrLarge)
		put(t, doc, eleven, "1", "", api.ErrLarge)
	}
	// where p leads, ahead of what would be made
	put(t, nest(10, ""), "/1", nest(10, ""), "", api.ErrDeep)
	put(t, nest(10, ""), "/2", nest(10, ""), "", api.ErrNone)
	put(t, row(199, "1"), "/199", "1", "", api.ErrLarge)
	put(t, row(199, "1"), "/200", "1", "", api.ErrNone)
}

// P8, of what Put makes.
func TestTold(t *testing.T) {
	put(t, nest(9, ""), strings.Repeat("/0", 8)+"/-", "{}", nest(9, "{}"), api.OK)
	put(t, nest(10, ""), strings.Repeat("/0", 9)+"/-", "1", nest(10, "1"), api.OK)
	put(t, nest(10, ""), strings.Repeat("/0", 9)+"/-", "[]", "", api.ErrDeep)
	put(t, nest(10, ""), strings.Repeat("/0", 9)+"/-", "{}", "", api.ErrDeep)
	put(t, "{}", "/a", nest(9, ""), `{"a":`+nest(9, "")+`}`, api.OK)
	put(t, "{}", "/a", nest(10, ""), "", api.ErrDeep)
	put(t, `{"a":`+nest(9, "")+`}`, "/a", "1", `{"a":1}`, api.OK)

	put(t, row(198, "1"), "/-", "1", row(199, "1"), api.OK)
	put(t, row(199, "1"), "/-", "1", "", api.ErrLarge)
	put(t, row(199, "1"), "/0", "2", "[2,"+row(198, "1")[1:], api.OK)
	put(t, row(199, "1"), "/0", "[]", "[[],"+row(198, "1")[1:], api.OK)
	put(t, row(199, "1"), "/0", "[1]", "", api.ErrLarge)
	put(t, row(99, "1"), "/-", row(99, "1"), row(99, "1")[:198]+","+row(99, "1")+"]", api.OK)
	put(t, row(99, "1"), "/-", row(100, "1"), "", api.ErrLarge)

	text := func(n int) string { return `"` + strings.Repeat("x", n) + `"` }
	put(t, "[]", "/0", text(1996), "["+text(1996)+"]", api.OK)
	put(t, "[]", "/0", text(1997), "", api.ErrLarge)
	put(t, `{"a":1}`, "/a", text(1992), `{"a":`+text(1992)+"}", api.OK)
	put(t, `{"a":1}`, "/a", text(1993), "", api.ErrLarge)
	name := strings.Repeat("n", 1994)
	put(t, "{}", "/"+name, "1", `{"`+name+`":1}`, api.OK)
	put(t, "{}", "/"+name, "11", "", api.ErrLarge)
	put(t, "{}", "/"+strings.Repeat(`"`, 997), "1", `{"`+strings.Repeat(`\"`, 997)+`":1}`, api.OK)
	put(t, "{}", "/"+strings.Repeat(`"`, 998), "1", "", api.ErrLarge)
	put(t, "{}", "/"+strings.Repeat("n", 100000), "1", "", api.ErrLarge)
	// It is the canonical document whose bytes are counted.
	put(t, strings.Repeat(" ", 1000)+"[]", "/-", strings.Repeat(" ", 1000)+"1", "[1]", api.OK)

	put(t, nest(10, ""), strings.Repeat("/0", 9)+"/-", row(199, "1"), "", api.ErrDeep)
	put(t, nest(10, ""), strings.Repeat("/0", 9)+"/-", "["+text(1990)+"]", "", api.ErrDeep)
}

// P10 names no error for a step with bytes that no document has: the field has that name all the same.
func TestStrangeNames(t *testing.T) {
	put(t, "{}", "/\x00\xff", "1", "{\"\x00\xff\":1}", api.OK)
	get(t, `{"a":1}`, "/\xff", "", api.ErrNone)
	cut(t, `{"a":1}`, "/\xff", "", api.ErrNone)
	put(t, "[]", "/\xff", "1", "", api.ErrNone)
}

func within(s, whole string) bool {
	if s == "" || whole == "" {
		return false
	}
	at, begin := uintptr(unsafe.Pointer(unsafe.StringData(s))), uintptr(unsafe.Pointer(unsafe.StringData(whole)))
	return begin <= at && at < begin+uintptr(len(whole))
}

// P2
func TestMemory(t *testing.T) {
	p := strings.Clone("/abc/~0x/0")
	got, _ := ptr.Steps(p)
	for _, s := range got {
		if within(s, p) {
			t.Errorf("the step %q shares memory with the pointer", s)
		}
	}
	in := []string{"abc", "~x", "/"}[:2:3]
	ptr.Join(in)
	if !slices.Equal(in[:3], []string{"abc", "~x", "/"}) {
		t.Errorf("Join changed its steps: %q", in[:3])
	}
	one := []string{strings.Clone("abc")}
	if s, _ := ptr.Join(one); within(one[0], s) || within(s, one[0]) {
		t.Error("the pointer shares memory with its step")
	}
	doc, v := strings.Clone(`{"a":["bcd"]}`), strings.Clone(`"xyz"`)
	for _, f := range []func() (string, api.Errno){
		func() (string, api.Errno) { return ptr.Get(doc, "") },
		func() (string, api.Errno) { return ptr.Get(doc, "/a") },
		func() (string, api.Errno) { return ptr.Get(doc, "/a/0") },
		func() (string, api.Errno) { return ptr.Put(doc, "", v) },
		func() (string, api.Errno) { return ptr.Put(doc, "/a/0", v) },
		func() (string, api.Errno) { return ptr.Cut(doc, "/a/0") },
	} {
		if s, e := f(); e != api.OK || within(s, doc) || within(s, v) {
			t.Errorf("%q, %d: shared memory, or an error", s, e)
		}
	}
}
