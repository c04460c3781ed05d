package merge_test

import (
	"bytes"
	library "encoding/json"
	"math/rand"
	"reflect"
	"strings"
	"testing"

	"seneschal/api"
	"seneschal/merge"
)

func decode(s string) any {
	var v any
	if err := library.Unmarshal([]byte(s), &v); err != nil {
		panic(err)
	}
	return v
}

func encode(v any) string {
	var out bytes.Buffer
	to := library.NewEncoder(&out)
	to.SetEscapeHTML(false)
	if err := to.Encode(v); err != nil {
		panic(err)
	}
	return strings.TrimSuffix(out.String(), "\n")
}

func count(v any) int {
	n := 1
	switch v := v.(type) {
	case map[string]any:
		for _, w := range v {
			n += count(w)
		}
	case []any:
		for _, w := range v {
			n += count(w)
		}
	}
	return n
}

func told(v any) (string, api.Errno) {
	s := encode(v)
	if len(s) > 2000 || count(v) > 200 {
		return "", api.ErrLarge
	}
	return s, api.OK
}

// oracleApply is the rule of RFC 7386, as it is written there; it works in place.
func oracleApply(target, patch any) any {
	says, is := patch.(map[string]any)
	if !is {
		return patch
	}
	to, is := target.(map[string]any)
	if !is {
		to = map[string]any{}
	}
	for name, value := range says {
		if value == nil {
			delete(to, name)
		} else {
			to[name] = oracleApply(to[name], value)
		}
	}
	return to
}

// hasNull tells whether a field within v, through objects, is null.
func hasNull(v any) bool {
	o, _ := v.(map[string]any)
	for _, w := range o {
		if w == nil || hasNull(w) {
			return true
		}
	}
	return false
}

// oracleDiff answers false where there is no such merge.
func oracleDiff(a, b any) (any, bool) {
	to, is := b.(map[string]any)
	if !is {
		return b, true
	}
	from, is := a.(map[string]any)
	if !is {
		return b, !hasNull(b)
	}
	out := map[string]any{}
	for name := range from {
		if _, there := to[name]; !there {
			out[name] = nil
		}
	}
	for name, w := range to {
		v, there := from[name]
		switch {
		case !there && (w == nil || hasNull(w)):
			return nil, false
		case !there:
			out[name] = w
		case reflect.DeepEqual(v, w):
		case w == nil:
			return nil, false
		default:
			made, is := oracleDiff(v, w)
			if !is {
				return nil, false
			}
			out[name] = made
		}
	}
	return out, true
}

// oracleCompose answers false where there is no such merge; it works in place.
func oracleCompose(p, q any) (any, bool) {
	then, is := q.(map[string]any)
	if !is {
		return q, true
	}
	first, is := p.(map[string]any)
	if !is {
		return nil, false
	}
	for name, w := range then {
		v, there := first[name]
		if there {
			made, is := oracleCompose(v, w)
			if !is {
				return nil, false
			}
			w = made
		}
		first[name] = w
	}
	return first, true
}

func toldOr(v any, is bool) (string, api.Errno) {
	if !is {
		return "", api.ErrMix
	}
	return told(v)
}

// againstOracles asks all three calls about a and b.
func againstOracles(t *testing.T, a, b string) (ofDiff, ofCompose api.Errno) {
	t.Helper()
	want, e := told(oracleApply(decode(a), decode(b)))
	call{"Apply", merge.Apply}.check(t, a, b, want, e)
	want, ofDiff = toldOr(oracleDiff(decode(a), decode(b)))
	call{"Diff", merge.Diff}.check(t, a, b, want, ofDiff)
	if ofDiff == api.OK {
		call{"Apply", merge.Apply}.check(t, a, want, b, api.OK)
	}
	want, ofCompose = toldOr(oracleCompose(decode(a), decode(b)))
	call{"Compose", merge.Compose}.check(t, a, b, want, ofCompose)
	return ofDiff, ofCompose
}

// universe is all values of these leaves and of objects with fields a and b, so many in one another; each is canonical.
func universe(deep int) []string {
	out := []string{"null", "1", `[{"a":null}]`}
	if deep == 0 {
		return out
	}
	inner := append([]string{""}, universe(deep-1)...)
	for _, v := range inner {
		for _, w := range inner {
			var fields []string
			if v != "" {
				fields = append(fields, `"a":`+v)
			}
			if w != "" {
				fields = append(fields, `"b":`+w)
			}
			out = append(out, "{"+strings.Join(fields, ",")+"}")
		}
	}
	return out
}

// P11, P12, P13: every two values of a small universe.
func TestUniverse(t *testing.T) {
	all := universe(2)
	for _, a := range all {
		for i, b := range all {
			if i%3 == len(a)%3 {
				againstOracles(t, a, b)
			}
		}
	}
}

// P12: there is a merge that makes b of a just where Diff answers one.
func TestDiffIsThere(t *testing.T) {
	small := universe(1)
	for _, a := range small {
		made := map[string]int{}
		for _, m := range small {
			s, _ := merge.Apply(a, m)
			made[s] = 1
		}
		for _, b := range small {
			_, e := merge.Diff(a, b)
			if (e == api.OK) != (made[b] == 1) {
				t.Errorf("Diff(%s, %s): %d", a, b, e)
			}
		}
	}
}

// behaviour tells what of answers for each document.
func behaviour(docs []string, of func(doc string) string) string {
	var out []string
	for _, d := range docs {
		out = append(out, of(d))
	}
	return strings.Join(out, " ")
}

func applied(doc, patch string) string {
	s, _ := merge.Apply(doc, patch)
	return s
}

// P13: there is one merge that does what p and then q do just where Compose answers one, and that is it.
func TestComposeIsThere(t *testing.T) {
	small := universe(1)
	docs := append(universe(1), `{"a":{"a":1,"x":1},"b":{"b":null,"y":2},"z":3}`, `{"x":{}}`)
	does := map[string]int{}
	for _, m := range universe(2) {
		does[behaviour(docs, func(d string) string { return applied(d, m) })] = 1
	}
	for _, p := range small {
		for _, q := range small {
			want := behaviour(docs, func(d string) string { return applied(applied(d, p), q) })
			m, e := merge.Compose(p, q)
			if (e == api.OK) != (does[want] == 1) {
				t.Errorf("Compose(%s, %s): %d", p, q, e)
			}
			if e != api.OK {
				continue
			}
			if got := behaviour(docs, func(d string) string { return applied(d, m) }); got != want {
				t.Errorf("Compose(%s, %s) = %s, which does not the same", p, q, m)
			}
		}
	}
}

type maker struct {
	r    *rand.Rand
	left int
	null int
	long int
}

func (m *maker) name() string {
	if m.long > 0 {
		return strings.Repeat("n", m.r.Intn(m.long))
	}
	return []string{"a", "b", "", "ab", "~", "\n", `"`, "aa", "B", "c", "d", "e", "f", "g", "h"}[m.r.Intn(15)]
}

func (m *maker) value(deep int) any {
	m.left--
	kind := m.r.Intn(8)
	if deep <= 0 || m.left <= 0 {
		kind = 7
	}
	switch {
	case kind < 5:
		v := map[string]any{}
		for n := m.r.Intn(15); n > 0 && m.left > 0; n-- {
			v[m.name()] = m.value(deep - 1)
		}
		return v
	case kind == 5:
		v := []any{}
		for n := m.r.Intn(4); n > 0 && m.left > 0; n-- {
			v = append(v, m.value(deep-1))
		}
		return v
	}
	if m.null > 0 && m.r.Intn(m.null) == 0 {
		return nil
	}
	return []any{true, false, 0, -7, "x", strings.Repeat("y", 1+m.r.Intn(60))}[m.r.Intn(6)]
}

func (m *maker) document() string {
	m.left = 1 + m.r.Intn(199)
	if m.long > 0 {
		return encode(m.value(1))
	}
	return encode(m.value(m.r.Intn(11)))
}

// P8, P11, P12, P13: documents by chance, against the library's values.
func TestOracle(t *testing.T) {
	m := maker{r: rand.New(rand.NewSource(4))}
	diffs, composed := map[api.Errno]int{}, map[api.Errno]int{}
	for range 10000 {
		m.null = []int{0, 3, 40}[m.r.Intn(3)]
		m.long = []int{0, 0, 0, 300}[m.r.Intn(4)]
		a, b := m.document(), m.document()
		if len(a) > 2000 || len(b) > 2000 {
			continue
		}
		e, f := againstOracles(t, a, b)
		diffs[e]++
		composed[f]++
	}
	for _, e := range []api.Errno{api.OK, api.ErrMix, api.ErrLarge} {
		if diffs[e] < 50 || composed[e] < 50 {
			t.Errorf("error %d came %d and %d times only", e, diffs[e], composed[e])
		}
	}
}
