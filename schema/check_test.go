package schema_test

import (
	"fmt"
	"math"
	"slices"
	"strconv"
	"strings"
	"testing"

	"seneschal/api"
	"seneschal/schema"
)

// Parts that ask for nothing but their kind.

func aBool() api.Part { return api.Part{Kind: api.KBool} }

func aNumber() api.Part {
	return api.Part{Kind: api.KNumber, Least: math.MinInt64, Most: math.MaxInt64}
}

func aText() api.Part { return api.Part{Kind: api.KText, Most: math.MaxInt64} }

func aList(items int) api.Part {
	return api.Part{Kind: api.KList, Items: items, Most: math.MaxInt64}
}

func anObject(fields ...api.Field) api.Part {
	return api.Part{Kind: api.KObject, Fields: fields}
}

func field(name string, part int) api.Field { return api.Field{Name: name, Part: part} }

func shape(parts ...api.Part) []api.Part { return parts }

func withDefault(p api.Part, doc string) api.Part {
	p.Default = doc
	return p
}

func withEnum(p api.Part, docs ...string) api.Part {
	p.Enum = docs
	return p
}

func withNeed(p api.Part, names ...string) api.Part {
	p.Need = names
	return p
}

func withExtra(p api.Part) api.Part {
	p.Extra = true
	return p
}

func withBounds(p api.Part, least, most int64) api.Part {
	p.Least, p.Most = least, most
	return p
}

// show is for the eyes: not so long that nobody reads it.
func show(v any) string {
	return fmt.Sprintf("%.500s", fmt.Sprintf("%+v", v))
}

// checks asks for what is wrong with s; if something is, for the same of the other calls, whatever the document is.
func checks(t *testing.T, s []api.Part, want api.Errno) {
	t.Helper()
	if e := schema.Check(s); e != want {
		t.Errorf("Check(%s) = %d, want %d", show(s), e, want)
	}
	if want == api.OK {
		return
	}
	for _, doc := range []string{"{}", "1", "x", "", nest(11, "")} {
		if l, e := schema.Faults(s, doc); l != nil || e != want {
			t.Errorf("Faults(%s, %.80q) = %s, %d, want %d", show(s), doc, show(l), e, want)
		}
		if made, e := schema.Fill(s, doc); made != "" || e != want {
			t.Errorf("Fill(%s, %.80q) = %q, %d, want %d", show(s), doc, made, e, want)
		}
		if made, e := schema.Prune(s, doc); made != "" || e != want {
			t.Errorf("Prune(%s, %.80q) = %q, %d, want %d", show(s), doc, made, e, want)
		}
	}
}

func nest(n int, inner string) string {
	return strings.Repeat("[", n) + inner + strings.Repeat("]", n)
}

func nestFields(n int, inner string) string {
	return strings.Repeat(`{"a":`, n) + inner + strings.Repeat("}", n)
}

// row is a list of n times item.
func row(n int, item string) string {
	return "[" + strings.TrimSuffix(strings.Repeat(item+",", n), ",") + "]"
}

func quoted(n int) string {
	return `"` + strings.Repeat("x", n) + `"`
}

// names is n names, no two the same.
func names(n int) []string {
	var out []string
	for i := range n {
		out = append(out, "n"+strconv.Itoa(i))
	}
	return out
}

// fieldsOf is n fields for that part, no two of one name.
func fieldsOf(n, part int) []api.Field {
	var out []api.Field
	for _, name := range names(n) {
		out = append(out, field(name, part))
	}
	return out
}

type wrongDoc struct {
	s string
	e api.Errno
}

func wrongDocs() []wrongDoc {
	return []wrongDoc{
		{"{", api.ErrSyntax},
		{"x", api.ErrSyntax},
		{" ", api.ErrSyntax},
		{"1 1", api.ErrSyntax},
		{"01", api.ErrSyntax},
		{"\xff", api.ErrSyntax},
		{nest(11, ""), api.ErrDeep},
		{`{"a":1,"a":1}`, api.ErrTwice},
		{"1234567890123456789", api.ErrLarge},
		{row(200, "1"), api.ErrLarge},
		{strings.Repeat(" ", 2001), api.ErrLarge},
	}
}

// P18: how many parts there are.
func TestParts(t *testing.T) {
	checks(t, nil, api.ErrArg)
	checks(t, shape(), api.ErrArg)
	checks(t, make([]api.Part, 0, 5), api.ErrArg)
	for _, p := range []api.Part{aBool(), aNumber(), aText(), anObject()} {
		for _, n := range []int{1, 2, 29, 30} {
			checks(t, slices.Repeat(shape(p), n), api.OK)
		}
		for _, n := range []int{31, 32, 1000} {
			checks(t, slices.Repeat(shape(p), n), api.ErrLarge)
		}
	}
	// Whatever they are.
	checks(t, make([]api.Part, 30), api.ErrArg)
	checks(t, make([]api.Part, 31), api.ErrLarge)
	checks(t, slices.Repeat(shape(withDefault(aText(), "{")), 30), api.ErrSyntax)
	checks(t, slices.Repeat(shape(withDefault(aText(), "{")), 31), api.ErrLarge)
	checks(t, make([]api.Part, 100000), api.ErrLarge)
}

// P18: kinds that are some, and none.
func TestKinds(t *testing.T) {
	for _, k := range []int{0, api.KNull, 7, 8, -1, -2, -6, 100, 256 + 3, 1<<32 + 3, math.MaxInt, math.MinInt, math.MinInt + 3} {
		checks(t, shape(api.Part{Kind: k}), api.ErrArg)
		checks(t, shape(aBool(), api.Part{Kind: k}), api.ErrArg)
		checks(t, shape(aBool(), aBool(), api.Part{Kind: k}, aBool()), api.ErrArg)
		// Ahead of all else that is wrong with it.
		checks(t, shape(api.Part{Kind: k, Fields: fieldsOf(9, 7), Need: names(9), Enum: names(9), Default: "{"}), api.ErrArg)
	}
	for k := api.KBool; k <= api.KObject; k++ {
		p := api.Part{Kind: k}
		if k == api.KList {
			p.Items = 1
		}
		checks(t, shape(p, aBool()), api.OK)
	}
}

// P18: 8 Fields, Need and Enum are as many as there may be.
func TestManyOfOne(t *testing.T) {
	for n := range 12 {
		want := api.OK
		if n > 8 {
			want = api.ErrLarge
		}
		checks(t, shape(anObject(fieldsOf(n, 1)...), aBool()), want)
		checks(t, shape(withNeed(anObject(), names(n)...)), want)
		checks(t, shape(withNeed(anObject(fieldsOf(8, 1)...), names(n)...), aBool()), want)
		for _, p := range []api.Part{aBool(), aNumber(), aText()} {
			checks(t, shape(withEnum(p, slices.Repeat([]string{"1"}, n)...)), want)
			checks(t, shape(aBool(), withEnum(p, slices.Repeat([]string{"1"}, n)...), aBool()), want)
		}
	}
	checks(t, shape(withNeed(anObject(), slices.Repeat([]string{""}, 9)...)), api.ErrLarge)
	// Ahead of what a part of its kind may not have, and of what is wrong with any of them.
	for _, p := range []api.Part{aBool(), aNumber(), aText(), aList(1), anObject()} {
		for _, q := range []api.Part{
			{Fields: fieldsOf(9, 1)}, {Fields: make([]api.Field, 9)}, {Need: names(9)}, {Enum: slices.Repeat([]string{"1"}, 9)}, {Enum: make([]string, 9)},
		} {
			q.Kind, q.Items, q.Least, q.Most = p.Kind, p.Items, p.Least, p.Most
			checks(t, shape(q, aBool()), api.ErrLarge)
			q.Items, q.Least, q.Most, q.Extra, q.Default = 1, 1, 1, true, "{"
			checks(t, shape(q, aBool()), api.ErrLarge)
		}
	}
}

// P18: what a part of a kind may not have.
func TestStrange(t *testing.T) {
	kinds := []int{api.KBool, api.KNumber, api.KText, api.KList, api.KObject}
	for _, r := range []struct {
		give func(p *api.Part)
		may  []int // the kinds that may have it
	}{
		{func(p *api.Part) { p.Fields = []api.Field{field("a", 1)} }, []int{api.KObject}},
		{func(p *api.Part) { p.Need = []string{"a"} }, []int{api.KObject}},
		{func(p *api.Part) { p.Extra = true }, []int{api.KObject}},
		{func(p *api.Part) { p.Items = 1 }, []int{api.KList}},
		{func(p *api.Part) { p.Enum = []string{"1"} }, []int{api.KBool, api.KNumber, api.KText}},
		{func(p *api.Part) { p.Least = 1 }, []int{api.KNumber, api.KText, api.KList}},
		{func(p *api.Part) { p.Most = 1 }, []int{api.KNumber, api.KText, api.KList}},
		{func(p *api.Part) { p.Least = -1 }, []int{api.KNumber, api.KText, api.KList}},
		{func(p *api.Part) { p.Most = -1 }, []int{api.KNumber, api.KText, api.KList}},
		{func(p *api.Part) { p.Least, p.Most = math.MinInt64, math.MaxInt64 }, []int{api.KNumber, api.KText, api.KList}},
		{func(p *api.Part) { p.Fields, p.Need, p.Enum = []api.Field{}, []string{}, []string{} }, kinds},
	} {
		for _, k := range kinds {
			p := api.Part{Kind: k}
			if k == api.KList {
				p.Items = 1
			}
			r.give(&p)
			want := api.ErrArg
			if slices.Contains(r.may, k) {
				want = api.OK
			}
			checks(t, shape(p, aBool()), want)
			// Ahead of numbers and documents that are wrong.
			if want != api.OK {
				p.Default = "{"
				checks(t, shape(p, aBool()), want)
				if k == api.KList {
					p.Items = 9
					checks(t, shape(p, aBool()), want)
				}
				if k == api.KObject {
					p.Fields = []api.Field{field("a", 9), field("a", 9)}
					checks(t, shape(p, aBool()), want)
				}
			}
		}
	}
	// Numbers that are no part's, where there may be none.
	for _, n := range []int{-1, 1, 2, 100, math.MinInt, math.MaxInt} {
		for _, p := range []api.Part{aBool(), aNumber(), aText(), anObject()} {
			p.Items = n
			checks(t, shape(p, aBool()), api.ErrArg)
		}
	}
}

// P18: of each of Fields a name that comes twice, then a number that is no part behind.
func TestFields(t *testing.T) {
	two := func(fields ...api.Field) []api.Part { return shape(anObject(fields...), aBool(), aBool()) }
	checks(t, two(field("a", 1), field("b", 2)), api.OK)
	checks(t, two(field("a", 2), field("b", 1)), api.OK)
	checks(t, two(field("a", 1), field("b", 1), field("", 1), field("A", 1), field("aa", 1), field("a\n", 1), field("\xff", 1)), api.OK)
	checks(t, two(field("a", 1), field("a", 2)), api.ErrTwice)
	checks(t, two(field("a", 1), field("a", 1)), api.ErrTwice)
	checks(t, two(field("", 1), field("b", 1), field("", 1)), api.ErrTwice)
	checks(t, two(append(fieldsOf(7, 1), field("n0", 1))...), api.ErrTwice)
	checks(t, two(append(fieldsOf(7, 1), field("n6", 1))...), api.ErrTwice)
	for _, n := range []int{0, -1, -2, 3, 4, 30, 100, 1<<32 + 1, math.MinInt, math.MaxInt} {
		checks(t, two(field("a", n)), api.ErrNone)
		checks(t, two(field("b", 1), field("a", n)), api.ErrNone)
		checks(t, two(append(fieldsOf(7, 1), field("a", n))...), api.ErrNone)
		// Field by field; of one field the name ahead of the number.
		checks(t, two(field("a", n), field("a", 1)), api.ErrNone)
		checks(t, two(field("a", n), field("a", n)), api.ErrNone)
		checks(t, two(field("a", 1), field("a", n)), api.ErrTwice)
		checks(t, two(field("a", 1), field("b", n), field("a", 1)), api.ErrNone)
		checks(t, two(field("a", 1), field("a", 1), field("b", n)), api.ErrTwice)
	}
	// Behind this one, wherever it stands.
	last := shape(anObject(), aBool(), anObject(field("a", 3)), aBool())
	for n, want := range []api.Errno{api.ErrNone, api.ErrNone, api.ErrNone, api.OK, api.ErrNone} {
		last[2].Fields = []api.Field{field("a", n)}
		checks(t, last, want)
	}
	checks(t, shape(anObject(field("a", 0))), api.ErrNone)
	checks(t, shape(anObject(field("a", 1))), api.ErrNone)
}

// P18: Items of a list.
func TestItems(t *testing.T) {
	for _, n := range []int{0, -1, 3, 4, 30, 1<<32 + 1, math.MinInt, math.MaxInt} {
		checks(t, shape(aList(n), aBool(), aBool()), api.ErrNone)
	}
	checks(t, shape(aList(1), aBool(), aBool()), api.OK)
	checks(t, shape(aList(2), aBool(), aBool()), api.OK)
	checks(t, shape(aList(0)), api.ErrNone)
	checks(t, shape(aList(1)), api.ErrNone)
	for n, want := range []api.Errno{api.ErrNone, api.ErrNone, api.ErrNone, api.OK, api.ErrNone} {
		checks(t, shape(aBool(), aBool(), aList(n), aBool()), want)
	}
	// Ahead of the documents.
	for _, w := range wrongDocs() {
		checks(t, shape(withDefault(aList(0), w.s), aBool()), api.ErrNone)
		checks(t, shape(withDefault(anObject(field("a", 0)), w.s), aBool()), api.ErrNone)
		checks(t, shape(withDefault(anObject(field("a", 1), field("a", 1)), w.s), aBool()), api.ErrTwice)
	}
}

// P18: what is wrong with the documents of Enum, one behind the other, then with that of Default.
func TestDocuments(t *testing.T) {
	for _, w := range wrongDocs() {
		for _, p := range []api.Part{aBool(), aNumber(), aText(), aList(2), anObject(field("a", 2))} {
			checks(t, shape(withDefault(p, w.s), aBool(), aBool()), w.e)
			checks(t, shape(anObject(), withDefault(p, w.s), aBool()), w.e)
		}
		for _, p := range []api.Part{aBool(), aNumber(), aText()} {
			checks(t, shape(withEnum(p, w.s)), w.e)
			checks(t, shape(withEnum(p, "1", "2", w.s, "3")), w.e)
			checks(t, shape(withEnum(p, "1", "2", "3", "4", "5", "6", "7", w.s)), w.e)
			checks(t, shape(aBool(), withEnum(p, "1", w.s), aBool()), w.e)
			for _, x := range wrongDocs() {
				checks(t, shape(withEnum(p, w.s, x.s)), w.e)
				checks(t, shape(withEnum(p, "1", w.s, "2", x.s)), w.e)
				checks(t, shape(withDefault(withEnum(p, w.s), x.s)), w.e)
				checks(t, shape(withDefault(withEnum(p, "1", w.s), x.s)), w.e)
				checks(t, shape(withDefault(withEnum(p, "1"), w.s), withEnum(p, x.s)), w.e)
			}
		}
	}
	// An empty text is no document; as a Default it is none.
	checks(t, shape(withEnum(aText(), "")), api.ErrSyntax)
	checks(t, shape(withEnum(aText(), "1", "")), api.ErrSyntax)
	checks(t, shape(withDefault(aText(), "")), api.OK)
	// Of whatever kind they are, and the same one twice.
	checks(t, shape(withEnum(aText(), "1", "null", "[]", `{"a":1}`, " true ", "1", "1")), api.OK)
	checks(t, shape(withEnum(aBool(), quoted(1998), row(199, "1"), nest(10, ""))), api.OK)
}

// P18: part by part.
func TestPartByPart(t *testing.T) {
	wrong := []struct {
		p api.Part
		e api.Errno
	}{
		{api.Part{}, api.ErrArg},
		{withNeed(anObject(), names(9)...), api.ErrLarge},
		{withExtra(aText()), api.ErrArg},
		{anObject(field("a", 29), field("a", 29)), api.ErrTwice},
		{anObject(field("a", 0)), api.ErrNone},
		{aList(0), api.ErrNone},
		{withEnum(aText(), "{"), api.ErrSyntax},
		{withEnum(aText(), nest(11, "")), api.ErrDeep},
		{withDefault(aText(), "{"), api.ErrSyntax},
		{withDefault(aText(), "1234567890123456789"), api.ErrLarge},
	}
	parts := slices.Repeat(shape(aBool()), 30)
	for _, w := range wrong {
		for _, x := range wrong {
			for _, at := range [][2]int{{0, 1}, {0, 28}, {13, 14}, {27, 28}} {
				s := slices.Clone(parts)
				s[at[0]], s[at[1]] = w.p, x.p
				checks(t, s, w.e)
				s[at[0]], s[at[1]] = aBool(), x.p
				checks(t, s, x.e)
			}
		}
	}
}

// P18, P19: a Default with a fault of its part, of each kind.
func TestDefaults(t *testing.T) {
	for _, r := range []struct {
		p    api.Part
		good []string
		bad  []string
	}{
		{aBool(), []string{"true", " false "}, []string{"null", "0", `"true"`, "[]", "{}"}},
		{withEnum(aBool(), "true"), []string{"true"}, []string{"false"}},
		{aNumber(), []string{"0", "-5", "999999999999999999", "-999999999999999999"}, []string{"null", "true", `"0"`, "[0]", "{}"}},
		{withBounds(aNumber(), -2, 7), []string{"-2", "0", "7"}, []string{"-3", "8"}},
		{api.Part{Kind: api.KNumber}, []string{"0"}, []string{"1", "-1"}},
		{withEnum(aNumber(), "1", " 2"), []string{"1", "2"}, []string{"3"}},
		{aText(), []string{`""`, quoted(1998)}, []string{"null", "1", "[]", "{}"}},
		{withBounds(aText(), 1, 2), []string{`"a"`, `"\n\n"`}, []string{`""`, `"abc"`}},
		{withEnum(aText(), `"a"`), []string{`"a"`}, []string{`"b"`}},
		{withBounds(aList(1), 1, 2), []string{"[true]", "[ true, false ]"}, []string{"[]", "[true,true,true]", "[1]", "[true,null]", "{}", "null"}},
		{withNeed(anObject(field("a", 1), field("b", 2)), "a"), []string{`{"a":true}`, `{"b":7,"a":false}`}, []string{"{}", `{"b":7}`, `{"a":1}`, `{"a":true,"c":1}`, `{"a":true,"b":8}`, "[]", "null"}},
		{withExtra(anObject(field("a", 1))), []string{"{}", `{"c":1}`, `{"a":true,"c":{}}`}, []string{`{"a":1}`, `{"a":null,"c":1}`}},
	} {
		within := shape(aBool(), withBounds(aNumber(), 7, 7))
		for _, doc := range r.good {
			checks(t, append(shape(withDefault(r.p, doc)), within...), api.OK)
		}
		for _, doc := range r.bad {
			checks(t, append(shape(withDefault(r.p, doc)), within...), api.ErrInvalid)
		}
	}
	// A Default is looked at as it is, not as it would be with the Defaults within it.
	need := withDefault(withNeed(anObject(field("a", 1)), "a"), "{}")
	checks(t, shape(need, withDefault(aNumber(), "3")), api.ErrInvalid)
	checks(t, shape(withDefault(need, `{"a":3}`), withDefault(aNumber(), "3")), api.OK)
	// One part's Default is no business of another's.
	checks(t, shape(aText(), withDefault(aNumber(), "3")), api.OK)
}

// P18: faults of Defaults come behind all else of all parts.
func TestDefaultsLast(t *testing.T) {
	faulty := withDefault(aText(), "1")
	for at := range 5 {
		s := slices.Repeat(shape(aBool()), 5)
		s[at] = faulty
		checks(t, s, api.ErrInvalid)
		for other := range 5 {
			if other == at {
				continue
			}
			s := slices.Clone(s)
			s[other] = api.Part{}
			checks(t, s, api.ErrArg)
			s[other] = withEnum(aText(), slices.Repeat([]string{"1"}, 9)...)
			checks(t, s, api.ErrLarge)
			s[other] = aList(0)
			checks(t, s, api.ErrNone)
			s[other] = withEnum(aNumber(), "{")
			checks(t, s, api.ErrSyntax)
			s[other] = withDefault(aNumber(), nest(11, ""))
			checks(t, s, api.ErrDeep)
			s[other] = withDefault(aNumber(), "true")
			checks(t, s, api.ErrInvalid)
			s[other] = withDefault(aNumber(), "1")
			checks(t, s, api.ErrInvalid)
		}
	}
	checks(t, shape(withDefault(anObject(field("a", 1), field("a", 1)), "1"), aBool()), api.ErrTwice)
	checks(t, shape(withDefault(withEnum(aText(), "x"), "1")), api.ErrSyntax)
}
