package merge_test

import (
	"strconv"
	"strings"
	"testing"
	"unsafe"

	"seneschal/api"
	"seneschal/json"
	"seneschal/merge"
)

type call struct {
	name string
	of   func(a, b string) (string, api.Errno)
}

func calls() []call {
	return []call{{"Apply", merge.Apply}, {"Diff", merge.Diff}, {"Compose", merge.Compose}}
}

func (c call) check(t *testing.T, a, b, want string, e api.Errno) {
	t.Helper()
	if got, f := c.of(a, b); got != want || f != e {
		t.Errorf("%s(%.80q, %.80q) = %.80q, %d, want %.80q, %d", c.name, a, b, got, f, want, e)
	}
}

func apply(t *testing.T, doc, patch, want string) {
	t.Helper()
	call{"Apply", merge.Apply}.check(t, doc, patch, want, api.OK)
}

// diff asks for the merge that makes b of a, and that it makes it.
func diff(t *testing.T, a, b, want string) {
	t.Helper()
	call{"Diff", merge.Diff}.check(t, a, b, want, api.OK)
	whole, _ := json.Canon(b)
	apply(t, a, want, whole)
}

func noDiff(t *testing.T, a, b string) {
	t.Helper()
	call{"Diff", merge.Diff}.check(t, a, b, "", api.ErrMix)
}

func compose(t *testing.T, p, q, want string) {
	t.Helper()
	call{"Compose", merge.Compose}.check(t, p, q, want, api.OK)
}

func noCompose(t *testing.T, p, q string) {
	t.Helper()
	call{"Compose", merge.Compose}.check(t, p, q, "", api.ErrMix)
}

func nest(n int, inner string) string {
	return strings.Repeat("[", n) + inner + strings.Repeat("]", n)
}

func nestFields(n int, inner string) string {
	return strings.Repeat(`{"a":`, n) + inner + strings.Repeat("}", n)
}

// fields is an object with n fields of that value, named by numbers from first on (of three digits).
func fields(first, n int, value string) string {
	var out []string
	for i := range n {
		out = append(out, `"`+strconv.Itoa(first+i)+`":`+value)
	}
	return "{" + strings.Join(out, ",") + "}"
}

// P11: what is no object takes the place of all that was there.
func TestApplyNoObject(t *testing.T) {
	some := []string{"null", "true", "7", `"x"`, "[]", "[1,{}]", "{}", `{"a":null}`, `{"a":{"b":1}}`}
	for _, d := range some {
		for _, v := range []string{"null", "false", "-1", `""`, "[]", "[null]", `[{"a":null}]`, `[1,{"b":[null],"c":{"d":null}}]`} {
			apply(t, d, v, v)
			apply(t, `{"x":`+d+`}`, `{"x":[`+v+`]}`, `{"x":[`+v+`]}`)
		}
	}
	apply(t, "[1,2,3]", "[4]", "[4]")
	apply(t, `{"a":[1,2]}`, `{"a":[2]}`, `{"a":[2]}`)
	apply(t, `{"a":{"b":1}}`, `{"a":2}`, `{"a":2}`)
	apply(t, "1", " [ 1 , null ] ", "[1,null]")
}

// P11: what is an object is merged field by field.
func TestApplyObject(t *testing.T) {
	for _, r := range [][3]string{
		{`{"a":1,"b":2}`, `{"a":null,"c":3}`, `{"b":2,"c":3}`},
		{`{"a":1}`, `{}`, `{"a":1}`},
		{`{"b":1,"a":null}`, `{}`, `{"a":null,"b":1}`},
		{`{"a":null}`, `{"b":1}`, `{"a":null,"b":1}`},
		{`{"a":null}`, `{"a":null}`, `{}`},
		{`{"a":{"b":null}}`, `{"a":{"c":1}}`, `{"a":{"b":null,"c":1}}`},
		{`{"a":1}`, `{"b":null}`, `{"a":1}`},
		{`{"a":1}`, `{"a":null}`, `{}`},
		{`{"a":1,"b":2}`, `{"a":null,"b":null}`, `{}`},
		{`{"a":{"b":{"c":1,"d":2},"e":3}}`, `{"a":{"b":{"c":null}}}`, `{"a":{"b":{"d":2},"e":3}}`},
		{`{"a":{"b":1}}`, `{"a":{"b":null}}`, `{"a":{}}`},
		{`{"a":{"b":1}}`, `{"a":null}`, `{}`},
		{`{"a":{"b":1}}`, `{"a":{}}`, `{"a":{"b":1}}`},
		// Where no object was, one without fields is at first.
		{"null", "{}", "{}"},
		{"[1]", "{}", "{}"},
		{"7", `{"a":null}`, "{}"},
		{`"x"`, `{"a":1,"b":null}`, `{"a":1}`},
		{"[1]", `{"a":{"b":null}}`, `{"a":{}}`},
		{"{}", `{"a":{"b":{"c":null,"d":[null]},"e":null}}`, `{"a":{"b":{"d":[null]}}}`},
		{`{"a":[1]}`, `{"a":{"0":2}}`, `{"a":{"0":2}}`},
		{`{"a":null}`, `{"a":{}}`, `{"a":{}}`},
		{`{"a":1}`, `{"a":{"b":null}}`, `{"a":{}}`},
		{`[{"a":1}]`, `{"a":2}`, `{"a":2}`},
		// Not through lists: a null there is a value.
		{`{"a":[{"b":1}]}`, `{"a":[{"b":null}]}`, `{"a":[{"b":null}]}`},
		// Names are held against each other as they are meant, and rise.
		{`{"ab":1,"b":2}`, `{"a":3,"abc":4,"":5}`, `{"":5,"a":3,"ab":1,"abc":4,"b":2}`},
		{`{"\n":1,"\t":2,"\"":3}`, `{"\n":null,"\"":4,"!":5}`, `{"\t":2,"!":5,"\"":4}`},
		{"{ \"b\" : 2 ,\n\"a\":1 }", "\t{\"c\":3 , \"b\":null}", `{"a":1,"c":3}`},
	} {
		apply(t, r[0], r[1], r[2])
	}
}

// P11: the cases of RFC 7386.
func TestApplyRFC(t *testing.T) {
	for _, r := range [][3]string{
		{`{"a":"b"}`, `{"a":"c"}`, `{"a":"c"}`},
		{`{"a":"b"}`, `{"b":"c"}`, `{"a":"b","b":"c"}`},
		{`{"a":"b"}`, `{"a":null}`, `{}`},
		{`{"a":"b","b":"c"}`, `{"a":null}`, `{"b":"c"}`},
		{`{"a":["b"]}`, `{"a":"c"}`, `{"a":"c"}`},
		{`{"a":"c"}`, `{"a":["b"]}`, `{"a":["b"]}`},
		{`{"a":{"b":"c"}}`, `{"a":{"b":"d","c":null}}`, `{"a":{"b":"d"}}`},
		{`{"a":[{"b":"c"}]}`, `{"a":[1]}`, `{"a":[1]}`},
		{`["a","b"]`, `["c","d"]`, `["c","d"]`},
		{`{"a":"b"}`, `["c"]`, `["c"]`},
		{`{"a":"foo"}`, `null`, `null`},
		{`{"a":"foo"}`, `"bar"`, `"bar"`},
		{`{"e":null}`, `{"a":1}`, `{"a":1,"e":null}`},
		{`[1,2]`, `{"a":"b","c":null}`, `{"a":"b"}`},
		{`{}`, `{"a":{"bb":{"ccc":null}}}`, `{"a":{"bb":{}}}`},
	} {
		apply(t, r[0], r[1], r[2])
	}
}

// P12
func TestDiff(t *testing.T) {
	for _, r := range [][3]string{
		// b is no object
		{`{"a":1}`, "null", "null"},
		{"null", "null", "null"},
		{"7", " 7 ", "7"},
		{"[1,2]", "[1,2]", "[1,2]"},
		{`{"a":1}`, `[{"b":null},null]`, `[{"b":null},null]`},
		// a is none
		{"[1]", "{}", "{}"},
		{"null", `{"b":1,"a":{"c":[null]}}`, `{"a":{"c":[null]},"b":1}`},
		{`"x"`, `{"a":{}}`, `{"a":{}}`},
		// both are
		{"{}", "{}", "{}"},
		{`{"a":1,"b":[{}]}`, `{"b":[{}],"a":1}`, "{}"},
		{`{"a":1}`, "{}", `{"a":null}`},
		{"{}", `{"a":1}`, `{"a":1}`},
		{`{"a":1}`, `{"a":2}`, `{"a":2}`},
		{`{"a":1,"c":3,"e":5}`, `{"b":2,"c":4,"e":5}`, `{"a":null,"b":2,"c":4}`},
		{`{"a":{"x":1,"y":2},"b":3}`, `{"a":{"x":1}}`, `{"a":{"y":null},"b":null}`},
		{`{"a":{"b":{"c":1,"d":2}}}`, `{"a":{"b":{"c":1,"d":3}}}`, `{"a":{"b":{"d":3}}}`},
		{`{"a":{"b":1}}`, `{"a":{}}`, `{"a":{"b":null}}`},
		{`{"a":{"b":1}}`, `{"a":2}`, `{"a":2}`},
		{`{"a":1}`, `{"a":{"b":2}}`, `{"a":{"b":2}}`},
		{`{"a":null}`, `{"a":{}}`, `{"a":{}}`},
		{`{"a":{}}`, `{"a":[]}`, `{"a":[]}`},
		{`{"a":[1,2,3]}`, `{"a":[1,2]}`, `{"a":[1,2]}`},
		{"{}", `{"a":{"b":{}}}`, `{"a":{"b":{}}}`},
		// nulls that are not said, or meant
		{`{"a":null}`, "{}", `{"a":null}`},
		{`{"a":null,"b":1}`, `{"a":null,"b":2}`, `{"b":2}`},
		{`{"a":{"b":null}}`, `{"a":{"b":null,"c":1}}`, `{"a":{"c":1}}`},
		{`{"a":{"b":null,"c":1}}`, `{"a":{"b":null}}`, `{"a":{"c":null}}`},
		{`{"a":null}`, `{"a":1}`, `{"a":1}`},
		{"{}", `{"a":[null]}`, `{"a":[null]}`},
		{`{"a":1}`, `{"a":[{"b":null}]}`, `{"a":[{"b":null}]}`},
		{"[]", `{"a":{"b":[{"c":null}]}}`, `{"a":{"b":[{"c":null}]}}`},
		{`{"\n":1,"ab":1,"a":1}`, `{"\n":1,"\t":2,"ab":1}`, `{"\t":2,"a":null}`},
	} {
		diff(t, r[0], r[1], r[2])
	}
}

// P12: a null would be said that isn't meant so.
func TestDiffMix(t *testing.T) {
	for _, r := range [][2]string{
		{"{}", `{"a":null}`},
		{`{"b":null}`, `{"a":null}`},
		{`{"a":1}`, `{"a":null}`},
		{`{"a":{}}`, `{"a":null}`},
		{`{"a":[null]}`, `{"a":null}`},
		{`{"a":{"a":null}}`, `{"a":null}`},
		{`{"a":{"b":1}}`, `{"a":{"b":null}}`},
		{`{"a":{}}`, `{"a":{"b":null}}`},
		{"null", `{"a":null}`},
		{"[null]", `{"a":null}`},
		{"7", `{"a":{"b":{"c":null}}}`},
		{"{}", `{"a":{"b":null}}`},
		{"{}", `{"a":{"b":{"c":1,"d":null}}}`},
		{`{"a":1}`, `{"a":{"b":null}}`},
		{`{"a":null}`, `{"a":{"b":null}}`},
		{`{"a":[{"b":null}]}`, `{"a":{"b":null}}`},
		{`{"a":{"b":[]}}`, `{"a":{"b":{"c":null}}}`},
		{`{"a":1,"z":null}`, `{"a":2,"b":[],"z":null,"zz":null}`},
	} {
		noDiff(t, r[0], r[1])
	}
}

// P13
func TestCompose(t *testing.T) {
	for _, r := range [][3]string{
		// q is no object
		{"1", "null", "null"},
		{`{"a":1}`, "[null]", "[null]"},
		{"null", "7", "7"},
		// both are
		{"{}", "{}", "{}"},
		{`{"a":1}`, "{}", `{"a":1}`},
		{"{}", `{"a":1}`, `{"a":1}`},
		{`{"c":1,"a":null}`, `{"b":null,"d":{"x":null}}`, `{"a":null,"b":null,"c":1,"d":{"x":null}}`},
		{`{"a":{"x":null}}`, "{}", `{"a":{"x":null}}`},
		{`{"a":1}`, `{"a":2}`, `{"a":2}`},
		{`{"a":1}`, `{"a":null}`, `{"a":null}`},
		{`{"a":{"b":1}}`, `{"a":null}`, `{"a":null}`},
		{`{"a":{"b":1}}`, `{"a":[{}]}`, `{"a":[{}]}`},
		{`{"a":null}`, `{"a":5}`, `{"a":5}`},
		{`{"a":null}`, `{"a":null}`, `{"a":null}`},
		{`{"a":null,"b":{"c":1}}`, `{"a":5,"b":{"d":2}}`, `{"a":5,"b":{"c":1,"d":2}}`},
		{`{"a":{"b":{"c":1,"d":null},"e":2}}`, `{"a":{"b":{"c":null,"d":3,"f":{}}}}`, `{"a":{"b":{"c":null,"d":3,"f":{}},"e":2}}`},
		{`{"a":{}}`, `{"a":{"b":null}}`, `{"a":{"b":null}}`},
		{"\t{\"ab\":1 , \"\\n\":2}", `{"b":3,"\"":4, "a":5}`, `{"\n":2,"\"":4,"a":5,"ab":1,"b":3}`},
	} {
		compose(t, r[0], r[1], r[2])
	}
	for _, r := range [][2]string{
		{"null", "{}"},
		{"1", "{}"},
		{"[{}]", `{"a":1}`},
		{`"{}"`, `{"a":null}`},
		{`{"a":null}`, `{"a":{}}`},
		{`{"a":1}`, `{"a":{"b":1}}`},
		{`{"a":[]}`, `{"a":{}}`},
		{`{"a":{"b":null}}`, `{"a":{"b":{}}}`},
		{`{"a":{"b":{"c":1}},"z":1}`, `{"a":{"b":{"c":{"d":null}}},"z":2}`},
	} {
		noCompose(t, r[0], r[1])
	}
}

// P8: what is made is told. (Nothing that is made is deeper than what it is made of.)
func TestTold(t *testing.T) {
	long := func(name string, n int) string { return `{"` + name + `":"` + strings.Repeat("x", n) + `"}` }
	both := func(n, m int) string {
		return `{"a":"` + strings.Repeat("x", n) + `","b":"` + strings.Repeat("x", m) + `"}`
	}
	for _, c := range calls() {
		first := long("a", 1000)
		if c.name == "Diff" {
			first = "{}"
		}
		for n := 1980; n <= 1990; n++ {
			a, b := first, long("b", n-1000)
			if c.name == "Diff" {
				b = both(1000, n-1000)
			}
			whole, e := both(1000, n-1000), api.OK
			if len(whole) > 2000 {
				whole, e = "", api.ErrLarge
			}
			c.check(t, a, b, whole, e)
		}
		c.check(t, nestFields(10, "1"), nestFields(10, "2"), nestFields(10, "2"), api.OK)
		c.check(t, nestFields(9, "{}"), nestFields(10, "2"), nestFields(10, "2"), api.OK)
		c.check(t, "{}", nestFields(9, "[2]"), nestFields(9, "[2]"), api.OK)
		c.check(t, "[]", nest(9, "{}"), nest(9, "{}"), api.OK)
	}
}

// P8: limits of what is made, one by one.
func TestLimits(t *testing.T) {
	a := call{"Apply", merge.Apply}
	a.check(t, fields(100, 100, "1"), fields(200, 99, "2"), strings.TrimSuffix(fields(100, 100, "1"), "}")+","+fields(200, 99, "2")[1:], api.OK)
	a.check(t, fields(100, 100, "1"), fields(200, 100, "2"), "", api.ErrLarge)
	a.check(t, fields(100, 199, "1"), fields(100, 180, "null"), fields(280, 19, "1"), api.OK)
	a.check(t, fields(100, 199, "1"), `{"100":null,"x":[]}`, strings.TrimSuffix(fields(101, 198, "1"), "}")+`,"x":[]}`, api.OK)
	a.check(t, fields(100, 199, "1"), `{"x":[]}`, "", api.ErrLarge)
	a.check(t, fields(100, 199, "1"), `{"x":null}`, fields(100, 199, "1"), api.OK)

	// 1 object and a null for each of 99 (100) fields beside 100 others.
	d := call{"Diff", merge.Diff}
	d.check(t, fields(100, 99, "1"), fields(200, 100, "2"), strings.TrimSuffix(fields(100, 99, "null"), "}")+","+fields(200, 100, "2")[1:], api.OK)
	d.check(t, fields(100, 100, "1"), fields(200, 100, "2"), "", api.ErrLarge)
	d.check(t, fields(100, 181, "1"), "{}", fields(100, 181, "null"), api.OK)
	d.check(t, fields(100, 182, "1"), "{}", "", api.ErrLarge)
	name := strings.Repeat("n", 1000)
	d.check(t, `{"`+name+`":1}`, `{"`+name[:986]+`":5}`, `{"`+name[:986]+`":5,"`+name+`":null}`, api.OK)
	d.check(t, `{"`+name+`":1}`, `{"`+name[:986]+`":10}`, "", api.ErrLarge)
	d.check(t, `{"`+name+`":1}`, `{"`+name[:987]+`":5}`, "", api.ErrLarge)
	// ErrMix is told ahead of what it is told as.
	d.check(t, fields(100, 150, "1"), strings.TrimSuffix(fields(300, 100, "2"), "}")+`,"x":null}`, "", api.ErrMix)

	c := call{"Compose", merge.Compose}
	c.check(t, fields(100, 100, "null"), fields(200, 99, "2"), strings.TrimSuffix(fields(100, 100, "null"), "}")+","+fields(200, 99, "2")[1:], api.OK)
	c.check(t, fields(100, 100, "null"), fields(200, 100, "2"), "", api.ErrLarge)
	c.check(t, fields(100, 181, "null"), fields(100, 181, "2"), fields(100, 181, "2"), api.OK)
	c.check(t, strings.TrimSuffix(fields(100, 150, "1"), "}")+`,"x":1}`, strings.TrimSuffix(fields(300, 100, "2"), "}")+`,"x":{}}`, "", api.ErrMix)
}

// P11, P12, P13: what is wrong with the first one, then with the second one, ahead of all else.
func TestWrong(t *testing.T) {
	wrong := []struct {
		s string
		e api.Errno
	}{
		{"", api.ErrSyntax},
		{"{", api.ErrSyntax},
		{"{} {}", api.ErrSyntax},
		{"\xff", api.ErrSyntax},
		{nest(11, ""), api.ErrDeep},
		{`{"a":1,"a":1}`, api.ErrTwice},
		{`{"a":1,"a":null}`, api.ErrTwice},
		{"1234567890123456789", api.ErrLarge},
		{fields(100, 200, "1"), api.ErrLarge},
		{strings.Repeat(" ", 2001), api.ErrLarge},
	}
	for _, c := range calls() {
		for _, w := range wrong {
			for _, good := range []string{"null", "[]", `{"a":1}`, `{"a":null}`, fields(100, 199, "1")} {
				c.check(t, w.s, good, "", w.e)
				c.check(t, good, w.s, "", w.e)
			}
			for _, x := range wrong {
				c.check(t, w.s, x.s, "", w.e)
			}
		}
	}
}

func within(s, whole string) bool {
	if s == "" || whole == "" {
		return false
	}
	at, begin := uintptr(unsafe.Pointer(unsafe.StringData(s))), uintptr(unsafe.Pointer(unsafe.StringData(whole)))
	return begin <= at && at < begin+uintptr(len(whole))
}

// P2
func TestMemory(t *testing.T) {
	docs := []string{"null", `"abc"`, "[1,2]", "{}", `{"a":{"b":"c"}}`}
	for _, c := range calls() {
		for _, a := range docs {
			for _, b := range docs {
				a, b := strings.Clone(a), strings.Clone(b)
				s, _ := c.of(a, b)
				if within(s, a) || within(s, b) || within(a, s) || within(b, s) {
					t.Errorf("%s(%s, %s) shares memory with what was handed in", c.name, a, b)
				}
				if again, _ := c.of(a, b); again != s {
					t.Errorf("%s(%s, %s) = %s, then %s", c.name, a, b, s, again)
				}
			}
		}
	}
}
