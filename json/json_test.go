package json_test

import (
	"strconv"
	"strings"
	"testing"
	"unsafe"

	"seneschal/api"
	"seneschal/json"
)

// wrong asks every call for what is wrong with s, and that nothing is told beside it.
func wrong(t *testing.T, s string, want api.Errno) {
	t.Helper()
	if c, e := json.Canon(s); c != "" || e != want {
		t.Errorf("Canon(%.80q) = %.80q, %d, want error %d", s, c, e, want)
	}
	if k, e := json.Kind(s); k != 0 || e != want {
		t.Errorf("Kind(%.80q) = %d, %d, want error %d", s, k, e, want)
	}
	if n, d, e := json.Size(s); n != 0 || d != 0 || e != want {
		t.Errorf("Size(%.80q) = %d, %d, %d, want error %d", s, n, d, e, want)
	}
	if is, e := json.Same(s, "1"); is || e != want {
		t.Errorf("Same(%.80q, 1) = %v, %d, want error %d", s, is, e, want)
	}
	if is, e := json.Same("1", s); is || e != want {
		t.Errorf("Same(1, %.80q) = %v, %d, want error %d", s, is, e, want)
	}
	if v, e := json.Read(s); v != nil || e != want {
		t.Errorf("Read(%.80q) = %v, %d, want error %d", s, v, e, want)
	}
}

func wrongs(t *testing.T, want api.Errno, texts ...string) {
	t.Helper()
	for _, s := range texts {
		wrong(t, s, want)
	}
}

// right asks every call about a good document.
func right(t *testing.T, s, canon string, kind, nodes, deep int) {
	t.Helper()
	if c, e := json.Canon(s); c != canon || e != api.OK {
		t.Errorf("Canon(%.80q) = %.80q, %d, want %.80q", s, c, e, canon)
	}
	if c, e := json.Canon(canon); c != canon || e != api.OK {
		t.Errorf("Canon(%.80q) = %.80q, %d, want it as it is", canon, c, e)
	}
	if k, e := json.Kind(s); k != kind || e != api.OK {
		t.Errorf("Kind(%.80q) = %d, %d, want %d", s, k, e, kind)
	}
	if n, d, e := json.Size(s); n != nodes || d != deep || e != api.OK {
		t.Errorf("Size(%.80q) = %d, %d, %d, want %d, %d", s, n, d, e, nodes, deep)
	}
	if is, e := json.Same(s, canon); !is || e != api.OK {
		t.Errorf("Same(%.80q, %.80q) = %v, %d", s, canon, is, e)
	}
}

func nest(n int, inner string) string {
	return strings.Repeat("[", n) + inner + strings.Repeat("]", n)
}

func nestFields(n int, inner string) string {
	return strings.Repeat(`{"a":`, n) + inner + strings.Repeat("}", n)
}

// row is a list of n times item.
func row(n int, item string) string {
	return "[" + strings.TrimSuffix(strings.Repeat(item+",", n), ",") + "]"
}

// P5, P7
func TestDocuments(t *testing.T) {
	right(t, "null", "null", api.KNull, 1, 0)
	right(t, " null ", "null", api.KNull, 1, 0)
	right(t, "true", "true", api.KBool, 1, 0)
	right(t, "false", "false", api.KBool, 1, 0)
	right(t, "0", "0", api.KNumber, 1, 0)
	right(t, "7", "7", api.KNumber, 1, 0)
	right(t, "-7", "-7", api.KNumber, 1, 0)
	right(t, "10", "10", api.KNumber, 1, 0)
	right(t, `""`, `""`, api.KText, 1, 0)
	right(t, `"x"`, `"x"`, api.KText, 1, 0)
	right(t, `" x "`, `" x "`, api.KText, 1, 0)
	right(t, `"[1, 2]"`, `"[1, 2]"`, api.KText, 1, 0)
	right(t, "[]", "[]", api.KList, 1, 1)
	right(t, "[ ]", "[]", api.KList, 1, 1)
	right(t, "[1,2 , 1]", "[1,2,1]", api.KList, 4, 1)
	right(t, "[[],[[]],null]", "[[],[[]],null]", api.KList, 5, 3)
	right(t, "{}", "{}", api.KObject, 1, 1)
	right(t, "{ }", "{}", api.KObject, 1, 1)
	right(t, `{"a":[1,{}]}`, `{"a":[1,{}]}`, api.KObject, 4, 3)
	right(t, `{ "b":[1, true] ,"a":"x" }`, `{"a":"x","b":[1,true]}`, api.KObject, 5, 2)
	right(t, `{"":{"":{"":null}}}`, `{"":{"":{"":null}}}`, api.KObject, 4, 3)
	right(t, `[{"b":2,"a":1},{"a":1,"b":2}]`, `[{"a":1,"b":2},{"a":1,"b":2}]`, api.KList, 7, 2)
}

// P5, P6: words
func TestWords(t *testing.T) {
	for _, w := range []string{"null", "true", "false"} {
		for i := 0; i < len(w); i++ {
			wrong(t, w[:i], api.ErrSyntax)
			wrong(t, w[:i]+" "+w[i:]+"x", api.ErrSyntax)
			wrong(t, w[:i]+strings.ToUpper(w[i:]), api.ErrSyntax)
			if i > 0 {
				wrong(t, "["+w[:i]+"]", api.ErrSyntax)
				wrong(t, w[:i]+" "+w[i:], api.ErrSyntax)
			}
		}
		wrongs(t, api.ErrSyntax, w+w, w+"x", w+" "+w, w+",", w+"1", `{`+w+`:1}`)
	}
	wrongs(t, api.ErrSyntax, "nil", "None", "nan", "undefined", "x", "trues")
}

// P5, P6: numbers
func TestNumbers(t *testing.T) {
	const most = "999999999999999999"
	for _, n := range []string{"0", "1", "9", "-1", "-9", "10", "-10", "100", most, "-" + most, "1" + most[1:], "100000000000000000", "-100000000000000000", most[1:]} {
		right(t, n, n, api.KNumber, 1, 0)
		right(t, " [ "+n+" ] ", "["+n+"]", api.KList, 2, 1)
	}
	wrongs(t, api.ErrSyntax, "-0", "-", "--1", "00", "01", "-01", "-00", "007", "+1", "1.0", "1.", ".5", "1e3", "1E3", "0x1", "1_0", "- 1", "1 0", "1-", "1-1", "-a", "-,", "[-]", "[-,1]", "Infinity", "-null", `-"1"`, "-[1]")
	wrongs(t, api.ErrLarge, most+"9", "-"+most+"9", "1"+most, "1234567890123456789", "-1234567890123456789", "9223372036854775807", "9223372036854775808", "-9223372036854775808", strings.Repeat("1", 2000), "-"+strings.Repeat("9", 1999))
	// A nought ahead is told, whatever the number of digits.
	wrongs(t, api.ErrSyntax, "0"+most, "-0"+most, "0123456789012345678", strings.Repeat("0", 19), strings.Repeat("0", 2000))
	// Both are told at the number's end, ahead of what stands behind it.
	wrongs(t, api.ErrLarge, most+"9x", most+"9 x", "["+most+"9", "["+most+"9}", most+"9.5", most+"9-")
	wrongs(t, api.ErrSyntax, "0"+most+"x", "[0"+most)
}

// P5, P6: texts
func TestTexts(t *testing.T) {
	for c := 0; c < 256; c++ {
		b := string([]byte{byte(c)})
		for _, around := range [][2]string{{"", ""}, {"a", "b"}, {"", "b"}, {"a", ""}} {
			s := `"` + around[0] + b + around[1] + `"`
			switch {
			case b == `"`:
				if around == [2]string{"a", ""} || around == [2]string{"", ""} {
					wrong(t, s, api.ErrSyntax)
				}
			case b == `\`:
				wrong(t, s, api.ErrSyntax)
			case c >= 32 && c <= 126:
				right(t, s, s, api.KText, 1, 0)
				right(t, "{"+s+":1}", "{"+s+":1}", api.KObject, 2, 1)
			default:
				wrong(t, s, api.ErrSyntax)
				wrong(t, "{"+s+":1}", api.ErrSyntax)
			}
		}
		s := `"a\` + b + `b"`
		if strings.Contains(`"\nt`, b) {
			right(t, s, s, api.KText, 1, 0)
			right(t, "{"+s+":1}", "{"+s+":1}", api.KObject, 2, 1)
		} else {
			wrong(t, s, api.ErrSyntax)
			wrong(t, "{"+s+":1}", api.ErrSyntax)
		}
	}
	wrongs(t, api.ErrSyntax, `"`, `"a`, `"\`, `"\"`, `"\\\"`, `a"`, `"a"b"`, `"a""b"`, `'a'`, `"\u0041"`, `"\x41"`, `"\ n"`, `"\/"`, `"\b"`, `"\r"`, `"\N"`, `"\0"`, "\"\\\n\"")
	right(t, `"\"\\\n\t"`, `"\"\\\n\t"`, api.KText, 1, 0)
	right(t, `"\\n"`, `"\\n"`, api.KText, 1, 0)
}

// P5, P6: blanks
func TestBlanks(t *testing.T) {
	places := []string{"", "[", "1", ",", "{", `"a"`, ":", "true", ",", `"b"`, ":", `"x"`, "}", ",", "[", "]", ",", "{", "}", "]", ""}
	const canon = `[1,{"a":true,"b":"x"},[],{}]`
	for c := 0; c < 256; c++ {
		b := string([]byte{byte(c)})
		blank := c == 32 || c == 10 || c == 9
		for i := 1; i < len(places); i++ {
			s := strings.Join(places[:i], "") + b + strings.Join(places[i:], "")
			_, e := json.Canon(s)
			if blank {
				right(t, s, canon, api.KList, 7, 2)
			} else if e == api.OK && !strings.Contains("-0123456789", b) {
				t.Errorf("Canon(%q) is OK", s)
			}
			if !blank && !strings.Contains("[]{},:0123456789-tfn\"", b) {
				wrong(t, s, api.ErrSyntax)
			}
		}
	}
	right(t, " \n\t[ \n\t1 \n\t, \n\t2 \n\t] \n\t", "[1,2]", api.KList, 3, 1)
	wrongs(t, api.ErrSyntax, "", " ", "\n\t ", "\r1", "1\r", "1\v", "1\f", "\xa01", "\ufeff1", "1\x00", "\x00")
}

// P5, P6: lists and objects
func TestSyntax(t *testing.T) {
	wrongs(t, api.ErrSyntax, "[", "]", "{", "}", "[}", "{]", "[1", "[1,", "[1,]", "[,]", "[,1]", "[1,,2]", "[1 2]", "[1]]", "[1];", "[1}", "[1:2]", "[]1", "1,2", "1]", ",", ":",
		`{"a"}`, `{"a":}`, `{"a":1,}`, `{,}`, `{,"a":1}`, `{"a":1 "b":2}`, `{"a":1]`, `{"a" 1}`, `{"a",1}`, `{"a"::1}`, `{a:1}`, `{1:2}`, `{null:1}`, `{[]:1}`, `{"a":1,,"b":2}`, `{"a":1`, `{"a":`, `{"a"`, `{"a`, `{"`, `{"a":1}}`, `{"a":1}{}`, `{"a":1:2}`, `{"a":1,"b"}`, `{:1}`, `{"a":1,2}`, `{} {}`, "[] []", "1 1", "//1", "1//", "[1/**/]")
}

// P5, P6: no two fields of one name
func TestTwice(t *testing.T) {
	wrongs(t, api.ErrTwice, `{"a":1,"a":2}`, `{"a":1,"a":1}`, `{"":1,"":1}`, `{"a":1,"b":2,"a":3}`, `{"b":1,"a":2,"c":3,"b":4}`, `[{"a":{"x":1,"x":2}}]`, `{"a":{},"a":{}}`, `{"\n":1,"\n":2}`, `{"\"":1,"\"":2}`, `{"a" : 1 , "a" : 2}`)
	right(t, `{"a":{"a":{"a":1}}}`, `{"a":{"a":{"a":1}}}`, api.KObject, 4, 3)
	right(t, `[{"a":1},{"a":1}]`, `[{"a":1},{"a":1}]`, api.KList, 5, 2)
	right(t, `{"b":{"a":1},"a":{"b":1}}`, `{"a":{"b":1},"b":{"a":1}}`, api.KObject, 5, 2)
	right(t, `{"a":1,"A":2}`, `{"A":2,"a":1}`, api.KObject, 3, 1)
	right(t, `{"\n":1,"\\n":2,"n":3}`, `{"\n":1,"\\n":2,"n":3}`, api.KObject, 4, 1)
	// Behind the name, ahead of all that follows it.
	wrongs(t, api.ErrTwice, `{"a":1,"a"`, `{"a":1,"a"}`, `{"a":1,"a" x`, `{"a":1,"a"x`, `{"a":1,"a":x}`, `{"a":1,"a":1234567890123456789}`, `{"a":1,"a":`+nest(11, "")+`}`)
	// Ahead of the name's end something else comes first.
	wrongs(t, api.ErrSyntax, `{"a":1,"a`, `{"a":1,"a\x"`, `{"a":1;"a":2}`, `{"a":01,"a":2}`, `{"a":1,a:2}`)
	wrongs(t, api.ErrLarge, `{"a":1234567890123456789,"a":2}`)
	wrongs(t, api.ErrDeep, `{"a":`+nest(10, "")+`,"a":2}`)
	wrongs(t, api.ErrSyntax, `[{"a":1,"b":{"c":}},{"a":1,"a":1}]`)
}

// P5, P6: MaxText
func TestBytes(t *testing.T) {
	text := func(n int) string { return `"` + strings.Repeat("a", n-2) + `"` }
	right(t, text(1999), text(1999), api.KText, 1, 0)
	right(t, text(2000), text(2000), api.KText, 1, 0)
	wrong(t, text(2001), api.ErrLarge)
	right(t, strings.Repeat(" ", 1999)+"1", "1", api.KNumber, 1, 0)
	right(t, "1"+strings.Repeat("\n", 1999), "1", api.KNumber, 1, 0)
	wrong(t, strings.Repeat(" ", 2000)+"1", api.ErrLarge)
	wrong(t, "1"+strings.Repeat("\t", 2000), api.ErrLarge)
	wrong(t, strings.Repeat(" ", 2000), api.ErrSyntax)
	wrong(t, strings.Repeat(" ", 2001), api.ErrLarge)
	// The number of bytes is told ahead of all else.
	for _, s := range []string{"x", "", "-0", `{"a":1,"a":2}`, nest(11, ""), row(201, "1")} {
		wrong(t, s+strings.Repeat(" ", 2001-len(s)), api.ErrLarge)
		if _, e := json.Canon(s + strings.Repeat(" ", 2000-len(s))); e == api.OK || (e == api.ErrLarge) != (s == row(201, "1")) {
			t.Errorf("Canon(%.80q) of 2000 bytes: %d", s, e)
		}
	}
	wrong(t, strings.Repeat("[", 100000), api.ErrLarge)
	wrong(t, strings.Repeat("\xff", 100000), api.ErrLarge)
}

// P5, P6: MaxNodes
func TestNodes(t *testing.T) {
	right(t, row(199, "1"), row(199, "1"), api.KList, 200, 1)
	right(t, row(199, "{}"), row(199, "{}"), api.KList, 200, 2)
	wrong(t, row(200, "1"), api.ErrLarge)
	right(t, row(99, "[1]")+" ", row(99, "[1]"), api.KList, 199, 2)
	wrong(t, row(100, "[1]"), api.ErrLarge)
	fields := func(n int) string {
		var out []string
		for i := range n {
			out = append(out, `"`+strconv.Itoa(100+i)+`":1`)
		}
		return "{" + strings.Join(out, ",") + "}"
	}
	right(t, fields(199), fields(199), api.KObject, 200, 1)
	wrong(t, fields(200), api.ErrLarge)
	// Where the 201st value begins: it must begin; then its number is told, ahead of what is wrong within it and behind it.
	ahead := strings.TrimSuffix(row(199, "1"), "]") + ","
	wrongs(t, api.ErrLarge, ahead+"1]", ahead+"1", ahead+"1x", ahead+"01", ahead+"-", ahead+"1234567890123456789", ahead+`"`, ahead+`"\x"`, ahead+"[", ahead+"{", ahead+"{]", ahead+"nul", ahead+"txue", ahead+"f", ahead+" \n\t1")
	wrongs(t, api.ErrSyntax, ahead+"]", ahead+"}", ahead, ahead+"x", ahead+",1]", ahead+"+1]", ahead+"N", ahead+"  ", strings.TrimSuffix(ahead, ","), strings.TrimSuffix(ahead, ",")+" 1]", strings.TrimSuffix(ahead, ",")+"}")
	// The number of values is told ahead of how deep they are.
	deep := strings.Repeat("[", 9) + "[" + strings.Repeat("1,", 190)
	wrongs(t, api.ErrLarge, deep+"[", deep+"{", deep+"[]]"+strings.Repeat("]", 9))
	deep = strings.Repeat("[", 9) + "[" + strings.Repeat("1,", 189)
	wrongs(t, api.ErrDeep, deep+"[", deep+"{", deep+"[1]]"+strings.Repeat("]", 9))
	right(t, deep+"1]"+strings.Repeat("]", 9), deep+"1]"+strings.Repeat("]", 9), api.KList, 200, 10)
	// A name twice ahead of the value that would be too many.
	twice := `[{"a":1,"b":2},` + strings.Repeat("1,", 195) + `{"a":`
	wrongs(t, api.ErrLarge, twice+"1}]", twice+`1,"a":2}]`)
	twice = `[{"a":1,"b":2},` + strings.Repeat("1,", 194) + `{"a":1,"a":`
	wrong(t, twice+"2}]", api.ErrTwice)
}

// P5, P6: MaxDeep
func TestDeep(t *testing.T) {
	for n := 1; n <= 10; n++ {
		right(t, nest(n, ""), nest(n, ""), api.KList, n, n)
		right(t, nest(n, "1"), nest(n, "1"), api.KList, n+1, n)
		right(t, nestFields(n, "1"), nestFields(n, "1"), api.KObject, n+1, n)
	}
	right(t, nest(9, "{}"), nest(9, "{}"), api.KList, 10, 10)
	right(t, nestFields(9, "[]"), nestFields(9, "[]"), api.KObject, 10, 10)
	right(t, nest(10, `"[[["`), nest(10, `"[[["`), api.KList, 11, 10)
	right(t, "["+nest(9, "")+","+nest(9, "")+","+nest(3, "")+"]", "["+nest(9, "")+","+nest(9, "")+","+nest(3, "")+"]", api.KList, 22, 10)
	wrongs(t, api.ErrDeep, nest(11, ""), nest(11, "1"), nest(10, "{}"), nestFields(11, "1"), nestFields(10, "[]"), nestFields(5, nest(6, "")), nest(30, ""))
	// Where the 11th one begins, ahead of what is wrong within it; behind what is wrong ahead of it.
	wrongs(t, api.ErrDeep, nest(10, "[x"), strings.Repeat("[", 11), strings.Repeat("[", 10)+"{", strings.Repeat(`{"a":`, 11), nest(10, "[}"))
	wrongs(t, api.ErrSyntax, nest(10, "1,"), strings.Repeat("[", 10), "[1 "+nest(10, ""), "[x,"+nest(10, "")+"]", nest(10, "x[]"), strings.Repeat(`{"a":`, 10))
	wrongs(t, api.ErrTwice, `{"a":1,"a":`+nest(10, "")+`}`)
	wrongs(t, api.ErrLarge, "[1234567890123456789,"+nest(10, "")+"]")
}

// P7: fields rise by their names
func TestOrder(t *testing.T) {
	for _, r := range [][2]string{
		{`{"ab":1,"a":2}`, `{"a":2,"ab":1}`},
		{`{"a":1,"":2}`, `{"":2,"a":1}`},
		{`{"abc":1,"ab":2,"a":3,"":4}`, `{"":4,"a":3,"ab":2,"abc":1}`},
		{`{"b":1,"aa":2}`, `{"aa":2,"b":1}`},
		{`{"a":1,"B":2,"1":3,"~":4," ":5}`, `{" ":5,"1":3,"B":2,"a":1,"~":4}`},
		{`{"10":1,"9":2}`, `{"10":1,"9":2}`},
		// What a name means counts, not how it is written: `\n` is the byte 10, `\t` is 9, `\"` is 34, `\\` is 92.
		{`{" ":1,"\n":2,"\t":3}`, `{"\t":3,"\n":2," ":1}`},
		{`{"#":1,"\"":2,"!":3}`, `{"!":3,"\"":2,"#":1}`},
		{`{"]":1,"\\":2,"[":3}`, `{"[":3,"\\":2,"]":1}`},
		{`{"a!":1,"a\n":2}`, `{"a\n":2,"a!":1}`},
		{`{"b":{"d":1,"c":[{"z":1,"y":2}]},"a":1}`, `{"a":1,"b":{"c":[{"y":2,"z":1}],"d":1}}`},
		{`[2,1,"b","a",null]`, `[2,1,"b","a",null]`},
	} {
		if c, e := json.Canon(r[0]); c != r[1] || e != api.OK {
			t.Errorf("Canon(%q) = %q, %d, want %q", r[0], c, e, r[1])
		}
	}
}

// P7
func TestSame(t *testing.T) {
	for _, r := range []struct {
		a, b string
		want bool
	}{
		{`{"a":1,"b":2}`, `{"b":2,"a":1}`, true},
		{`{"a":{"x":1,"y":[1]},"b":2}`, ` { "b" : 2 , "a" : { "y" : [ 1 ] , "x" : 1 } } `, true},
		{"[1,2]", "[ 1,2 ]", true},
		{"[1,2]", "[2,1]", false},
		{"[1,2]", "[1]", false},
		{"[]", "[[]]", false},
		{"[]", "{}", false},
		{"null", "false", false},
		{"null", "null", true},
		{"true", "true", true},
		{"true", "false", false},
		{"0", "false", false},
		{"1", `"1"`, false},
		{"1", "-1", false},
		{"1", "10", false},
		{"999999999999999999", "999999999999999998", false},
		{"-999999999999999999", "-999999999999999999", true},
		{`"a"`, `"a"`, true},
		{`"a"`, `"A"`, false},
		{`"a"`, `"a "`, false},
		{`"\n"`, `"n"`, false},
		{`"\n"`, `"\\n"`, false},
		{`""`, "null", false},
		{`{"a":1}`, `{"a":1,"b":null}`, false},
		{`{"a":1}`, `{"a":2}`, false},
		{`{"a":1}`, `{"b":1}`, false},
		{`{"a":[{"b":1,"c":2}]}`, `{"a":[{"c":2,"b":1}]}`, true},
		{`{"a,b":1}`, `{"a":1,"b":1}`, false},
		{`["a,b"]`, `["a","b"]`, false},
	} {
		for _, two := range [][2]string{{r.a, r.b}, {r.b, r.a}} {
			if is, e := json.Same(two[0], two[1]); is != r.want || e != api.OK {
				t.Errorf("Same(%q, %q) = %v, %d, want %v", two[0], two[1], is, e, r.want)
			}
		}
	}
	// What is wrong with a is told ahead of what is wrong with b.
	bad := map[string]api.Errno{"x": api.ErrSyntax, `{"a":1,"a":1}`: api.ErrTwice, nest(11, ""): api.ErrDeep, row(200, "1"): api.ErrLarge, strings.Repeat("1", 2001): api.ErrLarge}
	for a, want := range bad {
		for b := range bad {
			if is, e := json.Same(a, b); is || e != want {
				t.Errorf("Same(%.40q, %.40q) = %v, %d, want %d", a, b, is, e, want)
			}
		}
	}
}

// P7
func TestQuote(t *testing.T) {
	for s, want := range map[string]string{"": `""`, "a": `"a"`, `a"b`: `"a\"b"`, `\`: `"\\"`, "\n": `"\n"`, "\t": `"\t"`, `\n`: `"\\n"`, " ~ ": `" ~ "`, `/'&<>`: `"/'&<>"`} {
		q, e := json.Quote(s)
		if q != want || e != api.OK {
			t.Errorf("Quote(%q) = %q, %d, want %q", s, q, e, want)
		}
		right(t, q, q, api.KText, 1, 0)
	}
	for c := 0; c < 256; c++ {
		for _, s := range []string{string([]byte{byte(c)}), "a" + string([]byte{byte(c)}) + "b"} {
			q, e := json.Quote(s)
			if c >= 32 && c <= 126 || c == 10 || c == 9 {
				right(t, q, q, api.KText, 1, 0)
				if v, _ := json.Read(q); v != json.Text(s) {
					t.Errorf("Quote(%q) = %q, which means %v", s, q, v)
				}
			} else if q != "" || e != api.ErrForm {
				t.Errorf("Quote(%q) = %q, %d, want ErrForm", s, q, e)
			}
		}
	}
	a := func(n int) string { return strings.Repeat("a", n) }
	for s, want := range map[string]api.Errno{
		a(1997): api.OK, a(1998): api.OK, a(1999): api.ErrLarge, a(2000): api.ErrLarge, a(2001): api.ErrLarge, a(100000): api.ErrLarge,
		// The `\` of the document counts.
		a(1996) + "\n": api.OK, a(1997) + "\n": api.ErrLarge, a(1996) + `"`: api.OK, a(1997) + `"`: api.ErrLarge,
		strings.Repeat("\t", 999): api.OK, strings.Repeat("\t", 999) + "a": api.ErrLarge, strings.Repeat(`\`, 1000): api.ErrLarge,
		// A byte that may not be is told ahead of the length.
		a(1998) + "\x00": api.ErrForm, a(5000) + "\x7f": api.ErrForm, "\x80" + a(5000): api.ErrForm,
	} {
		q, e := json.Quote(s)
		if e != want || (q == "") != (e != api.OK) {
			t.Errorf("Quote(%.40q of %d bytes) = %.40q, %d, want %d", s, len(s), q, e, want)
		}
	}
}

// P2: what is answered shares no memory with what was handed in.
func TestNewMemory(t *testing.T) {
	apart := func(in, out string) {
		t.Helper()
		from, to := uintptr(unsafe.Pointer(unsafe.StringData(in))), uintptr(unsafe.Pointer(unsafe.StringData(out)))
		if to >= from && to < from+uintptr(len(in)) {
			t.Errorf("%q shares memory with %q", out, in)
		}
	}
	for _, s := range []string{`{"a":"xyz","b":[1,true]}`, `"a text"`, "null", "true", "false", "123", "[]", "{}"} {
		c, _ := json.Canon(s)
		apart(s, c)
		q, _ := json.Quote("text")
		apart("text", q)
	}
	s := `{"some name":"some text"}`
	v, _ := json.Read(s)
	for _, f := range v.(json.Object) {
		apart(s, f.Name)
		apart(s, string(f.Value.(json.Text)))
	}
}
