package schema_test

import (
	"math"
	"slices"
	"strconv"
	"strings"
	"testing"

	"seneschal/api"
	"seneschal/schema"
)

func at(path string, what api.Errno) api.Fault {
	return api.Fault{Path: path, What: what}
}

// finds asks for these faults, in this order.
func finds(t *testing.T, s []api.Part, doc string, want ...api.Fault) {
	t.Helper()
	if l, e := schema.Faults(s, doc); !slices.Equal(l, want) || e != api.OK {
		t.Errorf("Faults(%s, %.200q) = %s, %d, want %s", show(s), doc, show(l), e, show(want))
	}
}

// samples is documents of all kinds, by their kinds.
func samples() map[int][]string {
	return map[int][]string{
		api.KNull:   {"null", " null\n"},
		api.KBool:   {"true", "false"},
		api.KNumber: {"0", "1", "-1", "999999999999999999", "-999999999999999999"},
		api.KText:   {`""`, `"true"`, `"\n"`, quoted(1998)},
		api.KList:   {"[]", "[1]", "[null,[{}]]", row(199, "1")},
		api.KObject: {"{}", `{"a":1}`, `{"x":{"y":[]}}`},
	}
}

// P19: a value of another kind, and nothing more of it.
func TestOtherKinds(t *testing.T) {
	for _, p := range []api.Part{
		aBool(), withEnum(aBool(), "1"), aNumber(), withEnum(withBounds(aNumber(), 5, 3), "7"), aText(), withEnum(withBounds(aText(), 5000, -1), "7"),
		aList(2), withBounds(aList(2), 5000, -1), anObject(field("a", 2)), withNeed(anObject(), "b", "c"), withNeed(withExtra(anObject(field("a", 2))), "b"),
	} {
		for k, docs := range samples() {
			if k == p.Kind {
				continue
			}
			for _, doc := range docs {
				finds(t, shape(p, aBool(), aBool()), doc, at("", api.ErrKind))
			}
		}
		q := p
		if q.Items != 0 {
			q.Items = 3
		}
		if len(q.Fields) > 0 {
			q.Fields = []api.Field{field("a", 3)}
		}
		for k, docs := range samples() {
			for _, doc := range docs {
				if k != p.Kind && len(doc) < 300 {
					finds(t, shape(anObject(field("v", 2), field("w", 3)), aBool(), q, aBool()), `{"v":`+doc+`,"w":1}`, at("/v", api.ErrKind), at("/w", api.ErrKind))
				}
			}
		}
	}
}

// P19: values that are as they are to be.
func TestNoFaults(t *testing.T) {
	for _, doc := range samples()[api.KBool] {
		finds(t, shape(aBool()), doc)
	}
	for _, doc := range samples()[api.KNumber] {
		finds(t, shape(aNumber()), doc)
	}
	for _, doc := range samples()[api.KText] {
		finds(t, shape(aText()), doc)
	}
	for _, doc := range samples()[api.KObject] {
		finds(t, shape(withExtra(anObject())), doc)
	}
	finds(t, shape(aList(1), aNumber()), row(199, "1"))
	finds(t, shape(aList(1), aNumber()), "[]")
	finds(t, shape(anObject()), " { } ")
	finds(t, shape(withNeed(anObject(field("a", 1), field("b", 2)), "b", "a"), aNumber(), aText()), `{"b":"x","a":1}`)
	finds(t, shape(anObject(field("a", 1), field("b", 2)), aNumber(), aText()), "{}")
}

// P19: what is none of Enum; these are held against it as values.
func TestEnum(t *testing.T) {
	s := shape(withEnum(aText(), ` "x"`, `"y\n"`, "\"\\\"\"\t"))
	for _, doc := range []string{`"x"`, ` "x" `, `"y\n"`, `"\""`} {
		finds(t, s, doc)
	}
	for _, doc := range []string{`""`, `"X"`, `"xx"`, `"y"`, `"yn"`, `"y\\n"`, `"\\"`, `"\"\""`} {
		finds(t, s, doc, at("", api.ErrInvalid))
	}
	s = shape(withEnum(aNumber(), "1", " -2 ", "0"))
	for _, doc := range []string{"1", "-2", "0", "\n0"} {
		finds(t, s, doc)
	}
	for _, doc := range []string{"2", "-1", "10", "11"} {
		finds(t, s, doc, at("", api.ErrInvalid))
	}
	finds(t, shape(withEnum(aBool(), "false")), "false")
	finds(t, shape(withEnum(aBool(), "false")), "true", at("", api.ErrInvalid))
	finds(t, shape(withEnum(aBool(), "true", "false")), "true")
	// Those of another kind are never the same.
	finds(t, shape(withEnum(aBool(), "1", `"true"`, "null", "[true]", `{"a":true}`)), "true", at("", api.ErrInvalid))
	finds(t, shape(withEnum(aNumber(), `"1"`, "true", "[1]")), "1", at("", api.ErrInvalid))
	finds(t, shape(withEnum(aText(), "1", "[]")), `"1"`, at("", api.ErrInvalid))
	finds(t, shape(withEnum(aText(), "1", "2", "3", "4", "5", "6", "7", `"1"`)), `"1"`)
	finds(t, shape(withEnum(aText(), "null")), "null", at("", api.ErrKind))
	// Then the bounds.
	finds(t, shape(withEnum(withBounds(aNumber(), 5, 7), "1", "9")), "3", at("", api.ErrInvalid), at("", api.ErrArg))
	finds(t, shape(withEnum(withBounds(aNumber(), 5, 7), "1", "9")), "1", at("", api.ErrArg))
	finds(t, shape(withEnum(withBounds(aNumber(), 5, 7), "1", "9")), "9", at("", api.ErrLarge))
	finds(t, shape(withEnum(withBounds(aNumber(), 5, 7), "1", "9")), "6", at("", api.ErrInvalid))
	finds(t, shape(withEnum(withBounds(aText(), 2, 2), `"a"`)), `"b"`, at("", api.ErrInvalid), at("", api.ErrArg))
	finds(t, shape(withEnum(withBounds(aText(), 3, 1), `"a"`)), `"bc"`, at("", api.ErrInvalid), at("", api.ErrArg), at("", api.ErrLarge))
}

// bounded is what there is at path, if n is held against these bounds.
func bounded(path string, n, least, most int64) []api.Fault {
	var out []api.Fault
	if n < least {
		out = append(out, at(path, api.ErrArg))
	}
	if n > most {
		out = append(out, at(path, api.ErrLarge))
	}
	return out
}

// P19: Least and Most of numbers, of texts, of lists.
func TestBounds(t *testing.T) {
	const end = 999999999999999999
	for _, least := range []int64{math.MinInt64, -end - 1, -end, -7, -1, 0, 1, 2, 5, end, math.MaxInt64} {
		for _, most := range []int64{math.MinInt64, -end, -7, -1, 0, 1, 2, 5, end - 1, end, end + 1, math.MaxInt64} {
			for _, n := range []int64{-end, -8, -7, -6, -1, 0, 1, 2, 3, 5, end - 1, end} {
				finds(t, shape(withBounds(aNumber(), least, most)), strconv.FormatInt(n, 10), bounded("", n, least, most)...)
			}
			for n := range 7 {
				finds(t, shape(withBounds(aText(), least, most)), quoted(n), bounded("", int64(n), least, most)...)
				finds(t, shape(withBounds(aList(1), least, most), aNumber()), row(n, "9"), bounded("", int64(n), least, most)...)
			}
		}
	}
	// A Most that is 0 bars all that is above 0.
	zero := func(k int) []api.Part {
		p := api.Part{Kind: k}
		if k == api.KList {
			p.Items = 1
		}
		return shape(p, aNumber())
	}
	finds(t, zero(api.KNumber), "0")
	finds(t, zero(api.KNumber), "1", at("", api.ErrLarge))
	finds(t, zero(api.KNumber), "-1", at("", api.ErrArg))
	finds(t, zero(api.KText), `""`)
	finds(t, zero(api.KText), `"a"`, at("", api.ErrLarge))
	finds(t, zero(api.KList), "[]")
	finds(t, zero(api.KList), "[1]", at("", api.ErrLarge))
	finds(t, zero(api.KBool), "true")
	finds(t, shape(withExtra(anObject())), `{"a":1}`)
}

// P19: a text is as long as what it means.
func TestTextBytes(t *testing.T) {
	for doc, n := range map[string]int64{`"\n"`: 1, `"\t\n"`: 2, `"\"\\"`: 2, `"a\\nb"`: 4, `"~/"`: 2, `"` + strings.Repeat(`\\`, 999) + `"`: 999} {
		s := shape(withBounds(aText(), n, n))
		finds(t, s, doc)
		finds(t, shape(withBounds(aText(), n+1, n)), doc, at("", api.ErrArg))
		finds(t, shape(withBounds(aText(), n, n-1)), doc, at("", api.ErrLarge))
		finds(t, shape(withBounds(aText(), n+1, n-1)), doc, at("", api.ErrArg), at("", api.ErrLarge))
	}
}

// P19: a list counts its own values, not those within them.
func TestListValues(t *testing.T) {
	s := shape(withBounds(aList(1), 2, 2), withBounds(aList(2), 1, 3), aNumber())
	finds(t, s, "[[1],[2,3]]")
	finds(t, s, "[[1,2,3],[2]]")
	finds(t, s, "[[1,2,3]]", at("", api.ErrArg))
	finds(t, s, "[[],[],[1,2,3,4]]", at("", api.ErrLarge), at("/0", api.ErrArg), at("/1", api.ErrArg), at("/2", api.ErrLarge))
	finds(t, s, "[[1],[null,1,true,2,{}]]", at("/1", api.ErrLarge), at("/1/0", api.ErrKind), at("/1/2", api.ErrKind), at("/1/4", api.ErrKind))
	finds(t, s, "[1,[2]]", at("/0", api.ErrKind))
	var many []api.Fault
	for i := range 199 {
		many = append(many, at("/"+strconv.Itoa(i), api.ErrKind))
	}
	finds(t, shape(aList(1), aBool()), row(199, "1"), many...)
}

// P19: what is needed, in the order of Need.
func TestNeed(t *testing.T) {
	s := shape(withNeed(withExtra(anObject(field("b", 1))), "c", "a", "b", "", "~/", "0"), aNumber())
	finds(t, s, "{}", at("/c", api.ErrNone), at("/a", api.ErrNone), at("/b", api.ErrNone), at("/", api.ErrNone), at("/~0~1", api.ErrNone), at("/0", api.ErrNone))
	finds(t, s, `{"a":1,"":2}`, at("/c", api.ErrNone), at("/b", api.ErrNone), at("/~0~1", api.ErrNone), at("/0", api.ErrNone))
	finds(t, s, `{"a":1,"b":2,"c":3,"":4,"~/":5,"0":6}`)
	// It is there, whatever it is.
	finds(t, s, `{"a":null,"b":null,"c":null,"":null,"~/":null,"0":null}`, at("/b", api.ErrKind))
	// A name that comes twice is told twice.
	finds(t, shape(withNeed(anObject(), "a", "b", "a")), "{}", at("/a", api.ErrNone), at("/b", api.ErrNone), at("/a", api.ErrNone))
	// What is needed may be none of Fields: then it may not be there either, if there is no Extra.
	finds(t, shape(withNeed(anObject(), "a")), "{}", at("/a", api.ErrNone))
	finds(t, shape(withNeed(anObject(), "a")), `{"a":1}`, at("/a", api.ErrName))
	finds(t, shape(withNeed(withExtra(anObject()), "a")), `{"a":1}`)
	// Defaults don't make up for it.
	finds(t, shape(withNeed(anObject(field("a", 1)), "a"), withDefault(aNumber(), "1")), "{}", at("/a", api.ErrNone))
	// Names that no document has.
	finds(t, shape(withNeed(anObject(), "\xff\x00", strings.Repeat("/", 3000))), "{}", at("/\xff\x00", api.ErrNone), at("/"+strings.Repeat("~1", 3000), api.ErrNone))
	finds(t, shape(withNeed(anObject(), names(8)...)), `{"n3":1}`, at("/n0", api.ErrNone), at("/n1", api.ErrNone), at("/n2", api.ErrNone), at("/n4", api.ErrNone), at("/n5", api.ErrNone), at("/n6", api.ErrNone), at("/n7", api.ErrNone), at("/n3", api.ErrName))
}

// P19: fields that nobody knows, rising, with and without Extra.
func TestUnknown(t *testing.T) {
	p := anObject(field("m", 1), field("b", 1))
	doc := `{"z":1,"m":2,"a":3,"":4,"b":5,"~/":6,"aa":7,"B":8,"10":9,"9":10,"\n":11}`
	finds(t, shape(p, aNumber()), doc, at("/", api.ErrName), at("/\n", api.ErrName), at("/10", api.ErrName), at("/9", api.ErrName), at("/B", api.ErrName), at("/a", api.ErrName), at("/aa", api.ErrName), at("/z", api.ErrName), at("/~0~1", api.ErrName))
	finds(t, shape(withExtra(p), aNumber()), doc)
	// What is within them is of no matter.
	finds(t, shape(anObject(field("a", 1)), anObject()), `{"a":{},"b":{"a":1,"b":{"c":1}},"c":[{"d":1}]}`, at("/b", api.ErrName), at("/c", api.ErrName))
	finds(t, shape(withExtra(anObject(field("a", 1))), anObject()), `{"a":{"x":1},"b":{"a":1,"b":{"c":1}},"c":[{"d":1}]}`, at("/a/x", api.ErrName))
	finds(t, shape(anObject()), `{"b":1,"a":2}`, at("/a", api.ErrName), at("/b", api.ErrName))
	// Extra is of one part, not of what is within it.
	finds(t, shape(withExtra(anObject(field("a", 1))), anObject()), `{"b":1,"a":{"b":1}}`, at("/a/b", api.ErrName))
	finds(t, shape(anObject(field("a", 1)), withExtra(anObject())), `{"b":1,"a":{"b":1}}`, at("/b", api.ErrName))
}

// P19: of an object what is needed, then what nobody knows, then what is wrong within its fields, rising, not as Fields have them.
func TestOrder(t *testing.T) {
	s := shape(
		withNeed(anObject(field("z", 3), field("c", 2), field("b", 1), field("a", 3)), "y", "a", "x"),
		withNeed(anObject(field("c", 3), field("a", 2)), "n"),
		withBounds(aList(3), 0, 1),
		withEnum(withBounds(aNumber(), 1, 5), "1", "9"),
	)
	finds(t, s, `{"z":true,"c":[1,2,7,"x"],"b":{"c":9,"a":[0,9],"q":1},"w":1,"d":2}`,
		at("/y", api.ErrNone), at("/a", api.ErrNone), at("/x", api.ErrNone),
		at("/d", api.ErrName), at("/w", api.ErrName),
		at("/b/n", api.ErrNone), at("/b/q", api.ErrName), at("/b/a", api.ErrLarge), at("/b/a/0", api.ErrInvalid), at("/b/a/0", api.ErrArg), at("/b/a/1", api.ErrLarge), at("/b/c", api.ErrLarge),
		at("/c", api.ErrLarge), at("/c/1", api.ErrInvalid), at("/c/2", api.ErrInvalid), at("/c/2", api.ErrLarge), at("/c/3", api.ErrKind),
		at("/z", api.ErrKind))
	// A field's faults come with its turn, also where pointers would rise otherwise.
	s = shape(anObject(field("a!", 1), field("a", 1)), anObject(field("b", 2)), aNumber())
	finds(t, s, `{"a!":{"b":"","c":1},"a":{"b":"","c":1}}`, at("/a/c", api.ErrName), at("/a/b", api.ErrKind), at("/a!/c", api.ErrName), at("/a!/b", api.ErrKind))
	// One part may be for several places.
	s = shape(anObject(field("a", 1), field("b", 1), field("c", 2)), withBounds(aNumber(), 1, 2), aList(3), withBounds(aNumber(), 3, 4))
	finds(t, s, `{"a":0,"b":3,"c":[2,3,4,5]}`, at("/a", api.ErrArg), at("/b", api.ErrLarge), at("/c/0", api.ErrArg), at("/c/3", api.ErrLarge))
}

// P9, P19: pointers, as ptr.Join tells them.
func TestPointers(t *testing.T) {
	s := shape(anObject(field("~", 1), field("/", 1), field("", 1), field("a~1b", 1), field("a/b", 1), field("-", 1)), aList(2), anObject(field("/~", 3)), aNumber())
	finds(t, s, `{"~":1,"/":2,"":3,"a~1b":4,"a/b":5,"-":6}`, at("/", api.ErrKind), at("/-", api.ErrKind), at("/~1", api.ErrKind), at("/a~1b", api.ErrKind), at("/a~01b", api.ErrKind), at("/~0", api.ErrKind))
	finds(t, s, `{"~":[{},{"/~":""}],"/":[{"~/":1}]}`, at("/~1/0/~0~1", api.ErrName), at("/~0/1/~1~0", api.ErrKind))
	finds(t, shape(aList(1), aNumber()), "[1,2,3,4,5,6,7,8,9,10,null,12]", at("/10", api.ErrKind))
	// As many steps as there may be.
	var deep []api.Part
	for i := range 10 {
		deep = append(deep, withNeed(anObject(field("a", i+1)), "b"))
	}
	deep = append(deep, aNumber())
	var want []api.Fault
	for i := range 10 {
		want = append(want, at(strings.Repeat("/a", i)+"/b", api.ErrNone))
	}
	finds(t, deep, nestFields(10, "1"), want...)
	finds(t, deep, nestFields(10, "null"), append(want, at(strings.Repeat("/a", 10), api.ErrKind))...)
	finds(t, deep, nestFields(9, `{"c":1}`), append(want, at(strings.Repeat("/a", 9)+"/c", api.ErrName))...)
	var lists []api.Part
	for i := range 10 {
		lists = append(lists, aList(i+1))
	}
	finds(t, append(lists, aNumber()), nest(10, "true"), at(strings.Repeat("/0", 10), api.ErrKind))
	finds(t, append(lists, aNumber()), nest(10, "7"))
	// Schemas may be deeper than documents.
	for len(deep) < 30 {
		deep = slices.Insert(deep, 0, api.Part{})
	}
	for i := range 29 {
		deep[i] = anObject(field("a", i+1))
	}
	finds(t, deep, nestFields(9, `{"b":1}`), at(strings.Repeat("/a", 9)+"/b", api.ErrName))
}

// P19: as many faults as there are; no promise names an end of them.
func TestManyFaults(t *testing.T) {
	s := shape(aList(1), withNeed(anObject(), names(8)...))
	var want []api.Fault
	for i := range 199 {
		for _, name := range names(8) {
			want = append(want, at("/"+strconv.Itoa(i)+"/"+name, api.ErrNone))
		}
	}
	finds(t, s, row(199, "{}"), want...)
}

// P18, P19: what is wrong with the schema, then with the document.
func TestWrongDocuments(t *testing.T) {
	for _, w := range append(wrongDocs(), wrongDoc{"", api.ErrSyntax}) {
		for _, s := range [][]api.Part{shape(aBool()), shape(aText()), shape(aList(1), aNumber()), shape(anObject(field("a", 1)), withDefault(aNumber(), "1")), shape(withNeed(anObject(), "a"))} {
			if l, e := schema.Faults(s, w.s); l != nil || e != w.e {
				t.Errorf("Faults(%s, %.80q) = %s, %d, want %d", show(s), w.s, show(l), e, w.e)
			}
			fills(t, s, w.s, "", w.e)
			prunes(t, s, w.s, "", w.e)
		}
	}
	// More than 1000 Defaults that would come are no matter of a document that is wrong.
	fills(t, blown(), "x", "", api.ErrSyntax)
	fills(t, blown(), nest(11, ""), "", api.ErrDeep)
}
