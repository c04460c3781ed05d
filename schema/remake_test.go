package schema_test

import (
	"slices"
	"strings"
	"testing"

	"seneschal/api"
	"seneschal/schema"
)

// fills asks for what is made of doc, and that nothing more comes into that.
func fills(t *testing.T, s []api.Part, doc, want string, e api.Errno) {
	t.Helper()
	made, f := schema.Fill(s, doc)
	if made != want || f != e {
		t.Errorf("Fill(%s, %.200q) = %.200q, %d, want %.200q, %d", show(s), doc, made, f, want, e)
	}
	if f != api.OK {
		return
	}
	if again, f := schema.Fill(s, made); again != made || f != api.OK {
		t.Errorf("Fill(%s, %.200q), filled again: %.200q, %d", show(s), made, again, f)
	}
}

// prunes asks for what is left of doc, and that nothing more goes from that.
func prunes(t *testing.T, s []api.Part, doc, want string, e api.Errno) {
	t.Helper()
	made, f := schema.Prune(s, doc)
	if made != want || f != e {
		t.Errorf("Prune(%s, %.200q) = %.200q, %d, want %.200q, %d", show(s), doc, made, f, want, e)
	}
	if f != api.OK {
		return
	}
	if again, f := schema.Prune(s, made); again != made || f != api.OK {
		t.Errorf("Prune(%s, %.200q), pruned again: %.200q, %d", show(s), made, again, f)
	}
}

// stays asks that both calls leave doc as it is, but for its form.
func stays(t *testing.T, s []api.Part, doc, want string) {
	t.Helper()
	fills(t, s, doc, want, api.OK)
	prunes(t, s, doc, want, api.OK)
}

// P20: Defaults that come.
func TestFill(t *testing.T) {
	s := shape(anObject(field("n", 1), field("t", 2), field("b", 3), field("l", 4), field("o", 5), field("x", 6)),
		withDefault(aNumber(), " 3 "), withDefault(aText(), `"a\n"`), withDefault(aBool(), "false"), withDefault(aList(6), "[ ]"), withDefault(withExtra(anObject()), `{ "z":1, "y":[null] }`), aNumber())
	fills(t, s, "{}", `{"b":false,"l":[],"n":3,"o":{"y":[null],"z":1},"t":"a\n"}`, api.OK)
	fills(t, s, `{"n":4,"x":5,"l":[1]}`, `{"b":false,"l":[1],"n":4,"o":{"y":[null],"z":1},"t":"a\n","x":5}`, api.OK)
	fills(t, s, ` { "t":"", "o" : {}, "b":true, "l" : [ 2 ,1 ], "n":0 } `, `{"b":true,"l":[2,1],"n":0,"o":{},"t":""}`, api.OK)
	// Fields that nobody knows stay, as does what is within them.
	fills(t, s, `{"zz":{"b":1},"a":[{}]}`, `{"a":[{}],"b":false,"l":[],"n":3,"o":{"y":[null],"z":1},"t":"a\n","zz":{"b":1}}`, api.OK)
	// What is there stays, whatever it is.
	fills(t, s, `{"n":null,"t":7,"b":"","l":{},"o":[]}`, `{"b":"","l":{},"n":null,"o":[],"t":7}`, api.OK)
	// What is needed and has no Default does not come.
	fills(t, shape(withNeed(anObject(field("a", 1), field("b", 2)), "a", "b", "c"), aNumber(), withDefault(aNumber(), "1")), "{}", `{"b":1}`, api.OK)
	// The whole document is there, so its Default never comes.
	fills(t, shape(withDefault(anObject(field("a", 1)), `{"a":7}`), withDefault(aNumber(), "1")), "{}", `{"a":1}`, api.OK)
	// Names are as they are, not pointers; they lie where they rise to.
	fills(t, shape(anObject(field("b", 1), field("", 1), field("~1", 1), field("a/b", 1), field("\n", 1), field("a", 1), field("ab", 1)), withDefault(aNumber(), "1")), `{"aa":2,"A":3}`,
		`{"":1,"\n":1,"A":3,"a":1,"a/b":1,"aa":2,"ab":1,"b":1,"~1":1}`, api.OK)
	// Bounds and Enum of what is there are of no matter.
	fills(t, shape(anObject(field("a", 1), field("b", 1)), withDefault(withEnum(withBounds(aNumber(), 1, 1), "1"), "1")), `{"a":9}`, `{"a":9,"b":1}`, api.OK)
	// With Extra as without.
	fills(t, shape(withExtra(anObject(field("a", 1))), withDefault(aNumber(), "1")), `{"b":2}`, `{"a":1,"b":2}`, api.OK)
}

// P20: Defaults within what is there, and within what has just come.
func TestFillWithin(t *testing.T) {
	s := shape(anObject(field("o", 1), field("l", 2)),
		withDefault(anObject(field("p", 3), field("n", 4)), "{}"), aList(3),
		withDefault(anObject(field("n", 4), field("t", 5)), `{"t":"x"}`),
		withDefault(aNumber(), "3"), aText())
	fills(t, s, "{}", `{"o":{"n":3,"p":{"n":3,"t":"x"}}}`, api.OK)
	fills(t, s, `{"o":{}}`, `{"o":{"n":3,"p":{"n":3,"t":"x"}}}`, api.OK)
	fills(t, s, `{"o":{"n":4,"p":{}}}`, `{"o":{"n":4,"p":{"n":3}}}`, api.OK)
	fills(t, s, `{"o":{"p":{"n":1,"u":{}},"v":{}}}`, `{"o":{"n":3,"p":{"n":1,"u":{}},"v":{}}}`, api.OK)
	fills(t, s, `{"o":null}`, `{"o":null}`, api.OK)
	// Objects in lists.
	fills(t, s, `{"o":1,"l":[{},{"n":1},5,[{}],null,{"t":""}]}`, `{"l":[{"n":3},{"n":1},5,[{}],null,{"n":3,"t":""}],"o":1}`, api.OK)
	// Objects in lists of what has just come, and in lists of lists.
	s = shape(anObject(field("l", 1), field("m", 2)),
		withDefault(aList(4), `[{},{"n":1}]`), withDefault(aList(3), "[[{}],[],[{},{}]]"),
		aList(4), anObject(field("n", 5)), withDefault(aNumber(), "0"))
	fills(t, s, "{}", `{"l":[{"n":0},{"n":1}],"m":[[{"n":0}],[],[{"n":0},{"n":0}]]}`, api.OK)
	fills(t, s, `{"l":[],"m":[[{"n":true}]]}`, `{"l":[],"m":[[{"n":true}]]}`, api.OK)
	fills(t, shape(aList(1), anObject(field("a", 2)), withDefault(aNumber(), "1")), "[{},[],{\"b\":2},{}]", `[{"a":1},[],{"a":1,"b":2},{"a":1}]`, api.OK)
	// One and the same Default at several places has there what it needs there.
	s = shape(anObject(field("a", 1), field("b", 2)), withDefault(anObject(field("o", 3)), "{}"), withDefault(anObject(field("o", 3), field("q", 4)), "{}"), withDefault(anObject(field("n", 4)), "{}"), withDefault(aNumber(), "7"))
	fills(t, s, "{}", `{"a":{"o":{"n":7}},"b":{"o":{"n":7},"q":7}}`, api.OK)
	fills(t, s, `{"a":{"o":{"n":1}},"b":{"o":{}}}`, `{"a":{"o":{"n":1}},"b":{"o":{"n":7},"q":7}}`, api.OK)
}

// P20: a value of another kind than its part's stays, as does what has no part.
func TestOtherKindsStay(t *testing.T) {
	inner := shape(anObject(field("a", 2)), withDefault(aNumber(), "1"))
	for k, docs := range samples() {
		for _, doc := range docs {
			canon := strings.TrimSpace(doc)
			for _, p := range []api.Part{aBool(), aNumber(), aText(), aList(1), anObject(field("a", 1))} {
				if p.Kind != k {
					stays(t, append(shape(p), inner...), doc, canon)
				}
			}
			if len(doc) > 300 {
				continue
			}
			stays(t, shape(withExtra(anObject())), `{"x":`+doc+`}`, `{"x":`+canon+`}`)
			if k != api.KObject {
				stays(t, append(shape(aList(1)), inner...), `[{"a":5},`+doc+"]", `[{"a":5},`+canon+"]")
			}
		}
	}
	stays(t, shape(aBool()), "true", "true")
	stays(t, shape(aNumber()), " 7\n", "7")
	stays(t, shape(aText()), `"\n"`, `"\n"`)
	// Lists where objects should be, and the other way round.
	stays(t, shape(anObject(field("a", 1)), withDefault(aNumber(), "1")), `[{"b":1}]`, `[{"b":1}]`)
	stays(t, shape(aList(1), anObject(field("a", 2)), withDefault(aNumber(), "1")), `{"0":{"b":1},"a":{}}`, `{"0":{"b":1},"a":{}}`)
}

// P20: fields that nobody knows go, with and without Extra.
func TestPrune(t *testing.T) {
	s := shape(anObject(field("n", 4), field("o", 3), field("p", 1), field("l", 2)),
		withExtra(anObject(field("n", 4), field("o", 3))), aList(3), anObject(field("n", 4)), withDefault(aNumber(), "3"))
	prunes(t, s, "{}", "{}", api.OK)
	prunes(t, s, `{"q":0,"n":1}`, `{"n":1}`, api.OK)
	prunes(t, s, `{"z":1,"":2,"a":{"n":1}}`, "{}", api.OK)
	prunes(t, s, `{"o":{"n":1,"m":2},"m":3}`, `{"o":{"n":1}}`, api.OK)
	prunes(t, s, `{"p":{"n":1,"m":2,"o":{"n":3,"m":4}},"m":3}`, `{"p":{"m":2,"n":1,"o":{"n":3}}}`, api.OK)
	// What stays by Extra has no part: nothing of it goes.
	prunes(t, s, `{"p":{"x":{"y":{"z":1}},"n":1}}`, `{"p":{"n":1,"x":{"y":{"z":1}}}}`, api.OK)
	prunes(t, s, `{"l":[{"n":1,"m":2},{},3,[{"m":1}],{"m":4}]}`, `{"l":[{"n":1},{},3,[{"m":1}],{}]}`, api.OK)
	prunes(t, s, `{"n":{"x":1},"o":[{"x":1}],"p":null,"l":{"x":1},"q":[]}`, `{"l":{"x":1},"n":{"x":1},"o":[{"x":1}],"p":null}`, api.OK)
	prunes(t, shape(anObject()), `{"a":1,"b":{"c":2}}`, "{}", api.OK)
	prunes(t, shape(withExtra(anObject())), `{"b":{"c":2},"a":1}`, `{"a":1,"b":{"c":2}}`, api.OK)
	// What is needed is not thereby known.
	prunes(t, shape(withNeed(anObject(field("a", 1)), "a", "b"), aNumber()), `{"a":1,"b":2}`, `{"a":1}`, api.OK)
	// Names are as they are.
	prunes(t, shape(anObject(field("a~1b", 1), field("", 1)), aNumber()), `{"a~1b":1,"a/b":2,"":3,"a":4,"A~1B":5}`, `{"":3,"a~1b":1}`, api.OK)
	// Nothing comes.
	prunes(t, s, `{"o":{}}`, `{"o":{}}`, api.OK)
	prunes(t, blown(), "{}", "{}", api.OK)
	prunes(t, blown(), `{"n0":{"n1":{},"x":1},"x":1}`, `{"n0":{"n1":{}}}`, api.OK)
	// Objects in lists of lists.
	prunes(t, shape(aList(1), aList(2), anObject(field("a", 3)), aNumber()), `[[{"a":1,"b":2}],[],{"b":1},[{"b":2},5]]`, `[[{"a":1}],[],{"b":1},[{},5]]`, api.OK)
	prunes(t, shape(aList(1), aNumber()), `[{"a":1}]`, `[{"a":1}]`, api.OK)
	// What is as large as may be can be pruned, and stay.
	prunes(t, shape(aList(1), aNumber()), row(199, "1"), row(199, "1"), api.OK)
	prunes(t, shape(aText()), quoted(1998), quoted(1998), api.OK)
	prunes(t, shape(withExtra(anObject())), nestFields(10, "1"), nestFields(10, "1"), api.OK)
}

// chain is a schema of so many objects in one another: each comes as a Default into the one ahead of it, as does a last value.
func chain(n int, last string) []api.Part {
	var s []api.Part
	for i := range n {
		s = append(s, withDefault(anObject(field("a", i+1)), "{}"))
	}
	return append(s, withDefault(aText(), last))
}

// blown is a schema by which more Defaults would come than could be counted one by one.
func blown() []api.Part {
	var s []api.Part
	for i := range 29 {
		s = append(s, withDefault(anObject(fieldsOf(8, i+1)...), "{}"))
	}
	return append(s, withDefault(aNumber(), "1"))
}

// inList is s, but for a list of such values.
func inList(s []api.Part) []api.Part {
	out := shape(aList(1))
	for _, p := range s {
		p.Fields = slices.Clone(p.Fields)
		for i := range p.Fields {
			p.Fields[i].Part++
		}
		out = append(out, p)
	}
	return out
}

// P8, P20: what is made is told.
func TestFillTold(t *testing.T) {
	// How deep: a Default comes into each object, the last one into the tenth of them.
	for n := 1; n <= 9; n++ {
		fills(t, chain(n, `"x"`), "{}", nestFields(n, `"x"`), api.OK)
	}
	fills(t, chain(10, `"x"`), "{}", nestFields(10, `"x"`), api.OK)
	fills(t, chain(11, `"x"`), "{}", "", api.ErrDeep)
	fills(t, chain(28, `"x"`), "{}", "", api.ErrDeep)
	fills(t, chain(11, `"x"`), `{"a":1}`, `{"a":1}`, api.OK)
	lists := shape(anObject(field("a", 1)))
	for i := range 10 {
		lists = append(lists, aList(i+2))
	}
	lists = append(lists, aBool())
	lists[1].Default = nest(9, "")
	fills(t, lists, "{}", `{"a":`+nest(9, "")+"}", api.OK)
	lists[1].Default = nest(10, "")
	fills(t, lists, "{}", "", api.ErrDeep)
	// How long.
	long := func(n int) []api.Part { return shape(anObject(field("a", 1)), withDefault(aText(), quoted(n))) }
	fills(t, long(1992), "{}", `{"a":`+quoted(1992)+"}", api.OK)
	fills(t, long(1993), "{}", "", api.ErrLarge)
	fills(t, long(1993), `{"a":1}`, `{"a":1}`, api.OK)
	fills(t, long(1000), `{"b":`+quoted(985)+"}", `{"a":`+quoted(1000)+`,"b":`+quoted(985)+"}", api.OK)
	fills(t, long(1000), `{"b":`+quoted(986)+"}", "", api.ErrLarge)
	fills(t, inList(long(600)), "[{},{},{}]", row(3, `{"a":`+quoted(600)+"}"), api.OK)
	fills(t, inList(long(600)), "[{},{},{},{}]", "", api.ErrLarge)
	// How many values.
	fills(t, shape(anObject(field("a", 1)), withDefault(aList(2), row(197, "1")), aNumber()), `{"b":1}`, `{"a":`+row(197, "1")+`,"b":1}`, api.OK)
	fills(t, shape(anObject(field("a", 1)), withDefault(aList(2), row(198, "1")), aNumber()), `{"b":1}`, "", api.ErrLarge)
	fills(t, inList(long(1)), row(99, "{}"), row(99, `{"a":"x"}`), api.OK)
	fills(t, inList(long(1)), row(100, "{}"), "", api.ErrLarge)
	fills(t, inList(long(1)), "["+strings.Repeat("{},", 99)+"1]", "["+strings.Repeat(`{"a":"x"},`, 99)+"1]", api.OK)
	// Too deep goes ahead of too large.
	fills(t, chain(11, quoted(1998)), "{}", "", api.ErrDeep)
	fills(t, chain(10, quoted(1998)), "{}", "", api.ErrLarge)
	fills(t, inList(chain(10, `"x"`)), row(100, "{}"), "", api.ErrDeep)
	fills(t, inList(chain(9, `"x"`)), row(100, "{}"), "", api.ErrLarge)
	// A name of any length, as often as there may be values.
	name := strings.Repeat("n", 1<<20)
	fills(t, inList(shape(anObject(field(name, 1)), withDefault(aNumber(), "1"))), row(90, "{}"), "", api.ErrLarge)
	name = strings.Repeat("n", 1994)
	fills(t, shape(anObject(field(name, 1)), withDefault(aNumber(), "1")), "{}", `{"`+name+`":1}`, api.OK)
	fills(t, shape(anObject(field(name, 1)), withDefault(aNumber(), "10")), "{}", "", api.ErrLarge)
}

// P20: 1000 Defaults are told as too deep, if they are; one more is too large, whatever else.
func TestManyDefaults(t *testing.T) {
	for _, r := range []struct {
		objects, each int
		e             api.Errno
	}{
		{111, 9, api.ErrLarge}, // 999, and not too deep
		{90, 11, api.ErrDeep},  // 990
		{100, 10, api.ErrDeep},
		{50, 20, api.ErrDeep},
		{40, 25, api.ErrDeep},
		{91, 11, api.ErrLarge}, // 1001
		{77, 13, api.ErrLarge},
		{143, 7, api.ErrLarge},
		{101, 10, api.ErrLarge},
		{199, 20, api.ErrLarge},
	} {
		fills(t, inList(chain(r.each, `"x"`)), row(r.objects, "{}"), "", r.e)
	}
	// Those that are there don't come, nor do those within what is of another kind.
	fills(t, inList(chain(25, `"x"`)), "["+strings.Repeat("{},", 40)+`{"a":1},{"a":1},[],1]`, "", api.ErrDeep)
	fills(t, inList(chain(25, `"x"`)), "["+strings.Repeat("{},", 40)+`{"a":1},{"a":{}},[],1]`, "", api.ErrLarge)
	fills(t, inList(chain(25, `"x"`)), row(99, `{"a":1}`), row(99, `{"a":1}`), api.OK)
	// One that comes with others counts as one, whatever is within it.
	s := shape(aList(1), anObject(fieldsOf(8, 2)...), withDefault(aList(3), row(190, "[]")), aList(4), aBool())
	fills(t, s, "[{}]", "", api.ErrLarge)
	fills(t, blown(), "{}", "", api.ErrLarge)
	fills(t, blown(), "[]", "[]", api.OK)
	fills(t, blown(), `{"n0":1,"n1":1,"n2":1,"n3":1,"n4":1,"n5":1,"n6":1,"n7":1}`, `{"n0":1,"n1":1,"n2":1,"n3":1,"n4":1,"n5":1,"n6":1,"n7":1}`, api.OK)
}
