package query_test

import (
	"regexp"
	"strings"
	"testing"

	"seneschal/api"
	"seneschal/query"
)

// P22, P23: what is printed, parsed again, is what it was.
func TestPrint(t *testing.T) {
	for _, r := range []struct {
		l    []api.Req
		want string
	}{
		{nil, ""}, {[]api.Req{}, ""},
		{sel(in("a", "x")), "a=x"}, {sel(in("a", "")), "a="}, {sel(in("a", "x", "y")), "a in (x,y)"}, {sel(in("a", "y", "x", "y")), "a in (y,x,y)"}, {sel(in("a", "", "")), "a in (,)"}, {sel(in("a", "", "x")), "a in (,x)"},
		{sel(notIn("a", "x")), "a!=x"}, {sel(notIn("a", "")), "a!="}, {sel(notIn("a", "x", "y")), "a notin (x,y)"}, {sel(notIn("a", "x", "")), "a notin (x,)"}, {sel(notIn("a", many(8)...)), "a notin (va,vb,vc,vd,ve,vf,vg,vh)"},
		{sel(there("a")), "a"}, {sel(there("a.b/X_1")), "a.b/X_1"}, {sel(not("a")), "!a"}, {sel(not("a.b/X_1")), "!a.b/X_1"},
		{sel(there("a"), there("b")), "a,b"}, {sel(in("app", "web", "db"), notIn("tier", "x"), not("old"), there("new")), "app in (web,db),tier!=x,!old,new"}, {sel(not("b"), not("b"), in("a", ""), there("a")), "!b,!b,a=,a"},
		// Words may be keys and values as well.
		{sel(there("in"), not("notin"), in("in", "in"), notIn("notin", "notin", "in"), in("notin", "x", "in")), "in,!notin,in=in,notin notin (notin,in),notin in (x,in)"},
		{manyParts(8), "va,vb,vc,vd,ve,vf,vg,vh"},
	} {
		s, e := query.Print(r.l)
		if s != r.want || e != api.OK {
			t.Errorf("Print(%s) = %q, %d, want %q", show(r.l), s, e, r.want)
		}
		if l, e := query.Parse(s); !same(l, r.l) || e != api.OK {
			t.Errorf("Parse(%q) = %s, %d, want %s", s, show(l), e, show(r.l))
		}
	}
}

// longParts is a selector whose text has n bytes (208 to 270).
func longParts(n int) []api.Req {
	return sel(in("k", of(63)), notIn("k", of(60), of(60)), in("k", of(1), of(n-207)))
}

// P22, P23: 300 bytes, and more.
func TestLongest(t *testing.T) {
	for n := 210; n <= 260; n++ {
		l := longParts(n)
		s, e := query.Print(l)
		if len(s) != n || e != api.OK {
			t.Fatalf("Print of a selector with %d bytes: %d bytes, %d", n, len(s), e)
		}
	}
	more := func(n int) []api.Req { return append(longParts(250), notIn("k", of(n-254))) }
	for n := 255; n <= 310; n++ {
		want, much := api.OK, n
		if n > 300 {
			want, much = api.ErrLarge, 0
		}
		if s, e := query.Print(more(n)); len(s) != much || e != want {
			t.Errorf("Print of a selector with %d bytes: %d bytes, %d", n, len(s), e)
		}
	}
	// The most that there can be.
	var most []api.Req
	for range 8 {
		most = append(most, notIn(of(63), of(63), of(63), of(63), of(63), of(63), of(63), of(63), of(63)))
	}
	if s, e := query.Print(most); s != "" || e != api.ErrLarge {
		t.Errorf("Print of the longest selector: %q, %d", s, e)
	}
	// Check comes ahead of the length.
	if s, e := query.Print(append(most[:7], in("a"))); s != "" || e != api.ErrArg {
		t.Errorf("Print of a wrong and long selector: %q, %d", s, e)
	}
	parses(t, "a"+strings.Repeat(" ", 299), api.OK, there("a"))
	parses(t, "a"+strings.Repeat(" ", 300), api.ErrLarge)
	parses(t, strings.Repeat(" ", 300), api.OK)
	parses(t, strings.Repeat(" ", 301), api.ErrLarge)
	parses(t, strings.Repeat(" ", 1<<16), api.ErrLarge)
	// The length comes ahead of the form and of Check.
	parses(t, strings.Repeat("(", 300), api.ErrSyntax)
	parses(t, strings.Repeat("(", 301), api.ErrLarge)
	parses(t, strings.Repeat("-", 60)+strings.Repeat(" ", 240), api.ErrName)
	parses(t, strings.Repeat("-", 60)+strings.Repeat(" ", 241), api.ErrLarge)
	// Print has a blank ahead of the bracket, which a text of 300 bytes may lack.
	tight := "k=" + of(63) + ",k notin(" + of(60) + "," + of(60) + "),k in(" + of(50) + "," + of(46) + ")"
	if len(tight) != 300 {
		t.Fatal(len(tight))
	}
	l := sel(in("k", of(63)), notIn("k", of(60), of(60)), in("k", of(50), of(46)))
	parses(t, tight, api.OK, l...)
	if s, e := query.Print(l); s != "" || e != api.ErrLarge {
		t.Errorf("Print(%s) = %q, %d", show(l), s, e)
	}
}

func parses(t *testing.T, s string, want api.Errno, parts ...api.Req) {
	t.Helper()
	if l, e := query.Parse(s); e != want || !same(l, parts) {
		t.Errorf("Parse(%q) = %s, %d, want %s, %d", s, show(l), e, show(parts), want)
	}
}

// P23
func TestParse(t *testing.T) {
	for _, s := range []string{"", " ", "  ", strings.Repeat(" ", 17)} {
		parses(t, s, api.OK)
	}
	for s, r := range map[string]api.Req{
		"a": there("a"), "!a": not("a"), "a=x": in("a", "x"), "a==x": in("a", "x"), "a!=x": notIn("a", "x"),
		"a=": in("a", ""), "a==": in("a", ""), "a!=": notIn("a", ""), "a= ": in("a", ""), "a !=": notIn("a", ""),
		"a in (x)": in("a", "x"), "a notin (x)": notIn("a", "x"), "a in (x,y)": in("a", "x", "y"), "a notin (x,y)": notIn("a", "x", "y"), "a in (y,x,y)": in("a", "y", "x", "y"),
		"a in ()": in("a", ""), "a notin ()": notIn("a", ""), "a in ( )": in("a", ""), "a in (,)": in("a", "", ""), "a in (x,)": in("a", "x", ""), "a notin (,x)": notIn("a", "", "x"), "a in (x,,y)": in("a", "x", "", "y"), "a in (,,,,,,,)": in("a", make([]string, 8)...),
		"a in(x)": in("a", "x"), "a notin(x)": notIn("a", "x"), "a in()": in("a", ""),
		// Blanks in all places where they may stand.
		" a ": there("a"), "  a": there("a"), " ! a ": not("a"), "!  a": not("a"), " a = x ": in("a", "x"), "a  ==  x": in("a", "x"), " a != x ": notIn("a", "x"), "a =x": in("a", "x"), "a= x": in("a", "x"),
		" a  in  ( x , y ) ": in("a", "x", "y"), "a notin ( x,y )": notIn("a", "x", "y"), "a in( x )": in("a", "x"), "a in ( , )": in("a", "", ""), "   a   notin(   )   ": notIn("a", ""),
		// The longest run.
		"in": there("in"), "notin": there("notin"), "!in": not("in"), "ain": there("ain"), "in=x": in("in", "x"), "a=in": in("a", "in"), "in in (in)": in("in", "in"), "notin notin (notin)": notIn("notin", "notin"), "in in(in,notin)": in("in", "in", "notin"), "not in (x)": in("not", "x"),
		"a.b/C-d_e.f=G-h_i.9": in("a.b/C-d_e.f", "G-h_i.9"), "09azAZ=09azAZ": in("09azAZ", "09azAZ"),
	} {
		parses(t, s, api.OK, r)
	}
	parses(t, " app in (web, db) , tier!=x,!old,new ", api.OK, in("app", "web", "db"), notIn("tier", "x"), not("old"), there("new"))
	parses(t, "a,a,!a , a=,a!=,a in (),a==", api.OK, there("a"), there("a"), not("a"), in("a", ""), notIn("a", ""), in("a", ""), in("a", ""))
	parses(t, "a,b,c,d,e,f,g,h", api.OK, there("a"), there("b"), there("c"), there("d"), there("e"), there("f"), there("g"), there("h"))
}

// P23: texts that are in none of the forms; also where Check would have something to say of a part.
func TestParseSyntax(t *testing.T) {
	for _, s := range []string{
		// Signs that are missing.
		"a b", "a  b", "a b c", "a in", "a notin", "a in ", "a in b", "a in x)", "a in (x", "a in (x,", "a in (", "a notin (x", "a notin x", "a in (x y)", "a in (x) b", "a in (x)b", "a=x y", "a!=x y", "!a b", "a in (x) in (y)", "a in , b", "a in = x",
		// Doubled ones.
		"a=b=c", "a===b", "a====b", "a!==b", "a!!=b", "!!a", "! !a", "a in ((x))", "a in (x))", "a in in (x)", "a notin notin (x)", "a= =b", "a! =b", "a! = b", "a!=!b", "a==!b", "a=b==c",
		// Those at a wrong place.
		"a!", "a !", "a!b", "a(", "a)", "(a)", "()", "(", ")", "a(x)", "a (x)", "a=(x)", "a!=(x)", "a==(x,y)", "!a=x", "!a!=x", "! =x", "! = x", "!a in (x)", "!in (x)", "a=!x", "a in (!x)", "a in (x=y)", "a,(b)", "a in (x,(y))", "a in x,y", "a in [x]",
		// A word at the beginning is the key.
		"in (x)", " in (x)", "notin (x)", "in(x)", "a, in (x)", "a,notin (x)",
		// Words that are none.
		"a inx (y)", "a in.x (y)", "a in- (x)", "a xin (y)", "a not in (x)", "a not (x)", "a IN (x)", "a In (x)", "a notIn (x)", "a i n (x)", "ain (x)", "anotin (x)", "a/in (x)", "a in/ (x)", "a is (x)", "a= in (x)", "a=in (x)",
		// Bytes that there are not, blanks of other kinds among them.
		"a\t", "\ta", "a\n", "a =\tx", "a in\t(x)", "a\tin (x)", "a\x00", "\x00", "\t", "\n", "\r", "a\u00a0", "\u00e4", "a=\u00e4", "a\xff", "\x80", "a*", "a=*", "a:b", "a;b", "a@b", "a[b", "a`b", "a{b", "a+b", "a>1", "a<1", "a\"b", "a|b", "a&b", "a\\b", "a~b", "a^b", "a%b", "a#b", "a$b", "a?b", "a'b",
		// Check has something to say of them too.
		"-,a b", "a b,-", ",,,,,,,,,a b", "=x=y", "a=-=", of(65) + " x", "a=" + of(64) + " x", "a in (-", "a in (,,,,,,,,,", "(-)", ",(", "!-(",
	} {
		parses(t, s, api.ErrSyntax)
	}
}

// P23: what Check says of parts that are read.
func TestParseCheck(t *testing.T) {
	for s, want := range map[string]api.Errno{
		// Keys that are empty.
		"=": api.ErrName, "=x": api.ErrName, "==x": api.ErrName, "==": api.ErrName, "!=": api.ErrName, "!=x": api.ErrName, " != x": api.ErrName, "!": api.ErrName, " ! ": api.ErrName, ",": api.ErrName, " , ": api.ErrName, "a,": api.ErrName, "a, ": api.ErrName, ",a": api.ErrName, " ,a": api.ErrName, "a,,b": api.ErrName, "a, ,b": api.ErrName, "a,!": api.ErrName, "a,!=x": api.ErrName, "a in (x),": api.ErrName, "!,a": api.ErrName, "a,=,b": api.ErrName,
		// Keys and Vals that are none.
		"-": api.ErrName, "a/b/c": api.ErrName, "A/b": api.ErrName, "!-a": api.ErrName, "a.=x": api.ErrName, "_ in (x)": api.ErrName, "a=-": api.ErrName, "a=b/c": api.ErrName, "a!=.": api.ErrName, "a in (x,-)": api.ErrName, "a notin (x/y)": api.ErrName,
		of(64): api.ErrName, of(65): api.ErrLarge, "!" + of(65): api.ErrLarge, "a=" + of(64): api.ErrLarge, "a in (x," + of(64) + ")": api.ErrLarge, "a/" + of(63): api.ErrLarge,
		// Too many.
		"a,b,c,d,e,f,g,h,i": api.ErrLarge, ",,,,,,,": api.ErrName, ",,,,,,,,": api.ErrLarge, "-,,,,,,,,": api.ErrLarge, "a in (,,,,,,,,)": api.ErrLarge, "a in (-,,,,,,,,)": api.ErrLarge, "a notin (a,b,c,d,e,f,g,h,i)": api.ErrLarge, strings.Repeat(",", 300): api.ErrLarge,
		// The order in which it is told.
		"- in (,,,,,,,,)": api.ErrName, "-=" + of(64): api.ErrName, of(65) + "=-": api.ErrLarge, "a=-," + of(65): api.ErrName, "a=" + of(64) + ",-": api.ErrLarge, "a in (-," + of(64) + ")": api.ErrName, "a in (" + of(64) + ",-)": api.ErrLarge,
	} {
		parses(t, s, want)
	}
	parses(t, of(63)+"="+of(63), api.OK, in(of(63), of(63)))
	parses(t, "a/"+of(62)+"!="+of(63), api.OK, notIn("a/"+of(62), of(63)))
}

const runForm = `[-_./a-zA-Z0-9]*`

// partExp has a key that isn't empty ahead of words: where it is, the word is the longest run, and so the key.
var partExp = regexp.MustCompile(`\A *(?:` +
	`(?P<there>` + runForm + `)|! *(?P<not>` + runForm + `)|` +
	`(?P<key>` + runForm + `) *(?P<sign>==?|!=) *(?P<val>` + runForm + `)|` +
	`(?P<left>[-_./a-zA-Z0-9]+) +(?P<word>in|notin) *\((?P<vals> *` + runForm + ` *(?:, *` + runForm + ` *)*)\)` +
	`) *\z`)

// oraclePart reads one part by a regular expression.
func oraclePart(s string) (api.Req, bool) {
	m := partExp.FindStringSubmatchIndex(s)
	if m == nil {
		return api.Req{}, false
	}
	group := func(name string) (string, bool) {
		i := 2 * partExp.SubexpIndex(name)
		if m[i] < 0 {
			return "", false
		}
		return s[m[i]:m[i+1]], true
	}
	if key, is := group("there"); is {
		return there(key), true
	}
	if key, is := group("not"); is {
		return not(key), true
	}
	if sign, is := group("sign"); is {
		key, _ := group("key")
		val, _ := group("val")
		if sign == "!=" {
			return notIn(key, val), true
		}
		return in(key, val), true
	}
	key, _ := group("left")
	word, _ := group("word")
	inner, _ := group("vals")
	vals := strings.Split(strings.ReplaceAll(inner, " ", ""), ",")
	if word == "in" {
		return in(key, vals...), true
	}
	return notIn(key, vals...), true
}

// oracleParse cuts a text at the commas that stand in no brackets, and reads each piece by itself.
func oracleParse(s string) ([]api.Req, api.Errno) {
	if strings.Trim(s, " ") == "" {
		return nil, api.OK
	}
	var l []api.Req
	open, from := false, 0
	for i := range len(s) + 1 {
		if i < len(s) {
			open = s[i] == '(' || open && s[i] != ')'
			if open || s[i] != ',' {
				continue
			}
		}
		r, ok := oraclePart(s[from:i])
		if !ok {
			return nil, api.ErrSyntax
		}
		l, from = append(l, r), i+1
	}
	if e := query.Check(l); e != api.OK {
		return nil, e
	}
	return l, api.OK
}

// P22, P23: every text of a few pieces; what is parsed, printed and parsed again is what it was.
func TestAllShortTexts(t *testing.T) {
	pieces := []string{"a", "-", "in", "notin", " ", "=", "!", ",", "(", ")"}
	texts := []string{""}
	for range 5 {
		var longer []string
		for _, s := range texts {
			for _, piece := range pieces {
				longer = append(longer, s+piece)
			}
		}
		texts = longer
		for _, s := range texts {
			for _, s := range []string{s, "a in (" + s, "b" + s + ")"} {
				holdParse(t, s)
			}
		}
	}
}

func holdParse(t *testing.T, s string) {
	t.Helper()
	want, what := oracleParse(s)
	l, e := query.Parse(s)
	if !same(l, want) || e != what {
		t.Fatalf("Parse(%q) = %s, %d, want %s, %d", s, show(l), e, show(want), what)
	}
	if e != api.OK {
		return
	}
	told, e := query.Print(l)
	if e != api.OK {
		t.Fatalf("Print(%s) = %q, %d", show(l), told, e)
	}
	parses(t, told, api.OK, l...)
}

// P23: every byte, alone, as a key's, a Val's and between pieces.
func TestEachByte(t *testing.T) {
	for c := range 256 {
		b := string([]byte{byte(c)})
		for _, s := range []string{b, "a" + b, b + "a", "a" + b + "a", "a=" + b, "a=x" + b + "x", "a in (x" + b + "x)", "a" + b + "in (x)", "a in" + b + "(x)", "a in (x)" + b, "a in (x)" + b + "a", "a" + b + "=x"} {
			holdParse(t, s)
		}
	}
}
