package json_test

import (
	"runtime"
	"strings"
	"testing"

	"seneschal/api"
	"seneschal/json"
)

func nestValue(n int, v json.Value) json.Value {
	for range n {
		v = json.List{v}
	}
	return v
}

func rowValue(n int, v json.Value) json.Value {
	out := json.List{}
	for range n {
		out = append(out, v)
	}
	return out
}

func longText(n int) json.Value { return json.Text(strings.Repeat("a", n)) }

// P8
func TestTell(t *testing.T) {
	for _, r := range []struct {
		v    json.Value
		want string
		e    api.Errno
	}{
		{json.Null{}, "null", api.OK},
		{json.Bool(true), "true", api.OK},
		{json.Bool(false), "false", api.OK},
		{json.Number(0), "0", api.OK},
		{json.Number(-999999999999999999), "-999999999999999999", api.OK},
		{json.Text("a\"\\\n\tb"), `"a\"\\\n\tb"`, api.OK},
		{json.List{}, "[]", api.OK},
		{json.List(nil), "[]", api.OK},
		{json.Object{}, "{}", api.OK},
		{json.Object(nil), "{}", api.OK},
		{json.Object{{"", json.Null{}}, {"\n", json.List{json.Number(1), json.Text("")}}}, `{"":null,"\n":[1,""]}`, api.OK},

		{nestValue(10, json.Number(1)), nest(10, "1"), api.OK},
		{nestValue(11, json.Number(1)), "", api.ErrDeep},
		{nestValue(10, json.List{}), "", api.ErrDeep},
		{nestValue(10, json.Object{}), "", api.ErrDeep},
		{json.Object{{"a", nestValue(9, json.Object{})}}, "", api.ErrDeep},
		{json.List{json.Number(1), nestValue(10, json.Null{}), json.Number(2)}, "", api.ErrDeep},
		{nestValue(40, json.Null{}), "", api.ErrDeep},

		{rowValue(199, json.Number(1)), row(199, "1"), api.OK},
		{rowValue(200, json.Number(1)), "", api.ErrLarge},
		{rowValue(100, json.List{json.Null{}}), "", api.ErrLarge},
		{rowValue(100, json.Object{{"a", json.Null{}}}), "", api.ErrLarge},

		{longText(1998), `"` + strings.Repeat("a", 1998) + `"`, api.OK},
		{longText(1999), "", api.ErrLarge},
		{json.List{longText(1000), longText(993)}, "", api.OK},
		{json.List{longText(1000), longText(994)}, "", api.ErrLarge},
		{json.Object{{strings.Repeat("n", 1993), json.Number(12)}}, "", api.OK},
		{json.Object{{strings.Repeat("n", 1993), json.Number(123)}}, "", api.ErrLarge},
		{json.Text(strings.Repeat("\n", 1000)), "", api.ErrLarge},

		// How deep it is goes ahead of how large it is.
		{nestValue(11, longText(3000)), "", api.ErrDeep},
		{nestValue(11, rowValue(300, json.Null{})), "", api.ErrDeep},
		{nestValue(9, rowValue(300, longText(3000))), "", api.ErrLarge},
	} {
		s, e := json.Tell(r.v)
		if e != r.e || e != api.OK && s != "" || e == api.OK && r.want != "" && s != r.want {
			t.Errorf("Tell(%.60v) = %.60q, %d, want %.60q, %d", r.v, s, e, r.want, r.e)
		}
		if e != api.OK {
			continue
		}
		if c, e := json.Canon(s); c != s || e != api.OK {
			t.Errorf("Tell(%.60v) = %.60q is not canonical: %.60q, %d", r.v, s, c, e)
		}
	}
}

// P1, P8: what is much too long is refused, not written: there may be more of it than memory.
func TestTellMuch(t *testing.T) {
	long := strings.Repeat("a", 1<<20)
	for _, v := range []json.Value{
		rowValue(190, json.Text(long)),
		rowValue(90, json.Object{{long, json.Null{}}}),
		nestValue(9, rowValue(190, json.Text(long))),
	} {
		var before, behind runtime.MemStats
		runtime.ReadMemStats(&before)
		s, e := json.Tell(v)
		runtime.ReadMemStats(&behind)
		if much := behind.TotalAlloc - before.TotalAlloc; s != "" || e != api.ErrLarge || much > 1<<20 {
			t.Errorf("Tell = %.60q, %d, with %d bytes of memory", s, e, much)
		}
	}
}

// P8: what was read can be told.
func TestReadAndTell(t *testing.T) {
	for _, s := range []string{"null", "true", "-5", `"x\n"`, "[]", "[1,[2,[]]]", "{}", `{"a":{"b":[null]},"c":""}`, nest(10, "1"), row(199, "1")} {
		v, e := json.Read(s)
		if e != api.OK {
			t.Errorf("Read(%.60q): %d", s, e)
			continue
		}
		if told, e := json.Tell(v); told != s || e != api.OK {
			t.Errorf("Tell of %.60q is %.60q, %d", s, told, e)
		}
		if !json.Equal(v, v) || json.Equal(v, json.List{v}) {
			t.Errorf("Equal of %.60q", s)
		}
	}
}

func TestFind(t *testing.T) {
	v, _ := json.Read(`{"b":1,"ab":2,"a":3,"":4}`)
	o := v.(json.Object)
	for name, want := range map[string]int{"": 0, "a": 1, "ab": 2, "b": 3} {
		if i, there := o.Find(name); i != want || !there {
			t.Errorf("Find(%q) = %d, %v, want %d", name, i, there, want)
		}
	}
	for name, want := range map[string]int{" ": 1, "aa": 2, "abc": 3, "c": 4} {
		if i, there := o.Find(name); i != want || there {
			t.Errorf("Find(%q) = %d, %v, want %d and none", name, i, there, want)
		}
	}
}

// Ways into values that other packages take.
func TestFields(t *testing.T) {
	o := json.Object{{"", json.Number(1)}, {"a", json.Null{}}, {"b", json.List{}}}
	for _, name := range []string{"", "a", "b"} {
		if at, there := o.Find(name); !there || !json.Equal(o.Under(name), o[at].Value) {
			t.Errorf("Under(%q) = %v", name, o.Under(name))
		}
	}
	for _, name := range []string{"A", "aa", "c", "0"} {
		if v := o.Under(name); v != nil {
			t.Errorf("Under(%q) = %v", name, v)
		}
	}
	if v := json.FieldsOf(o); !json.Equal(v, o) {
		t.Errorf("FieldsOf(%v) = %v", o, v)
	}
	for _, v := range []json.Value{nil, json.Null{}, json.Text("a"), json.List{o}, json.Object{}} {
		if f := json.FieldsOf(v); len(f) > 0 || f.Under("a") != nil {
			t.Errorf("FieldsOf(%v) = %v", v, f)
		}
	}
}
