package schema_test

import (
	"bytes"
	library "encoding/json"
	"maps"
	"math"
	"math/rand"
	"reflect"
	"slices"
	"strconv"
	"strings"
	"testing"

	"seneschal/api"
	"seneschal/json"
	"seneschal/ptr"
	"seneschal/schema"
)

func decode(s string) any {
	from := library.NewDecoder(strings.NewReader(s))
	from.UseNumber()
	var v any
	if err := from.Decode(&v); err != nil {
		panic(err)
	}
	return v
}

func encode(v any) string {
	var out bytes.Buffer
	to := library.NewEncoder(&out)
	to.SetEscapeHTML(false)
	if err := to.Encode(v); err != nil {
		panic(err)
	}
	return strings.TrimSuffix(out.String(), "\n")
}

// sizeOf is how many values v has, and how many lists and objects in one another.
func sizeOf(v any) (int, int) {
	var inner []any
	switch v := v.(type) {
	case map[string]any:
		inner = slices.Collect(maps.Values(v))
	case []any:
		inner = v
	default:
		return 1, 0
	}
	nodes, deep := 1, 0
	for _, w := range inner {
		n, d := sizeOf(w)
		nodes, deep = nodes+n, max(deep, d)
	}
	return nodes, deep + 1
}

func told(v any) (string, api.Errno) {
	nodes, deep := sizeOf(v)
	if deep > 10 {
		return "", api.ErrDeep
	}
	s := encode(v)
	if nodes > 200 || len(s) > 2000 {
		return "", api.ErrLarge
	}
	return s, api.OK
}

func kindOf(v any) int {
	switch v.(type) {
	case bool:
		return api.KBool
	case library.Number:
		return api.KNumber
	case string:
		return api.KText
	case []any:
		return api.KList
	case map[string]any:
		return api.KObject
	}
	return api.KNull
}

// oracleCheck gathers all that is wrong with s, each with its place in the order in which it is told, and answers what comes first.
func oracleCheck(s []api.Part) api.Errno {
	type complaint struct {
		rank [4]int
		e    api.Errno
	}
	var all []complaint
	say := func(is bool, e api.Errno, rank ...int) {
		if is {
			all = append(all, complaint{[4]int(append(rank, 0, 0, 0, 0)[:4]), e})
		}
	}
	wrong := func(doc string) api.Errno {
		_, e := json.Kind(doc)
		return e
	}
	say(len(s) == 0, api.ErrArg, -2)
	say(len(s) > 30, api.ErrLarge, -1)
	for i, p := range s {
		say(p.Kind < 2 || p.Kind > 6, api.ErrArg, i, 1)
		say(len(p.Fields) > 8, api.ErrLarge, i, 2)
		say(len(p.Need) > 8, api.ErrLarge, i, 2)
		say(len(p.Enum) > 8, api.ErrLarge, i, 2)
		say(p.Kind != 6 && len(p.Fields)+len(p.Need) > 0, api.ErrArg, i, 3)
		say(p.Kind != 6 && p.Extra, api.ErrArg, i, 3)
		say(p.Kind != 5 && p.Items != 0, api.ErrArg, i, 3)
		say((p.Kind == 5 || p.Kind == 6) && p.Enum != nil && len(p.Enum) > 0, api.ErrArg, i, 3)
		say((p.Kind == 2 || p.Kind == 6) && (p.Least != 0 || p.Most != 0), api.ErrArg, i, 3)
		for j, f := range p.Fields {
			for _, g := range p.Fields[:j] {
				say(g.Name == f.Name, api.ErrTwice, i, 4, j, 1)
			}
			say(f.Part <= i || f.Part >= len(s), api.ErrNone, i, 4, j, 2)
		}
		say(p.Kind == 5 && (p.Items <= i || p.Items >= len(s)), api.ErrNone, i, 5)
		for j, doc := range p.Enum {
			say(wrong(doc) != api.OK, wrong(doc), i, 6, j)
		}
		say(p.Default != "" && wrong(p.Default) != api.OK, wrong(p.Default), i, 7)
	}
	if len(all) > 0 {
		return slices.MinFunc(all, func(a, b complaint) int { return slices.Compare(a.rank[:], b.rank[:]) }).e
	}
	for i, p := range s {
		if p.Default != "" && len(oracleFaults(s, i, decode(p.Default), "")) > 0 {
			return api.ErrInvalid
		}
	}
	return api.OK
}

func step(name string) string {
	return "/" + strings.ReplaceAll(strings.ReplaceAll(name, "~", "~0"), "/", "~1")
}

// oracleFaults follows P19 word by word.
func oracleFaults(s []api.Part, i int, v any, path string) (out []api.Fault) {
	p := s[i]
	if kindOf(v) != p.Kind {
		return []api.Fault{at(path, api.ErrKind)}
	}
	same := func(doc string) bool { return reflect.DeepEqual(decode(doc), v) }
	if len(p.Enum) > 0 && !slices.ContainsFunc(p.Enum, same) {
		out = append(out, at(path, api.ErrInvalid))
	}
	switch v := v.(type) {
	case library.Number:
		n, _ := v.Int64()
		out = append(out, bounded(path, n, p.Least, p.Most)...)
	case string:
		out = append(out, bounded(path, int64(len(v)), p.Least, p.Most)...)
	case []any:
		out = append(out, bounded(path, int64(len(v)), p.Least, p.Most)...)
		for j, w := range v {
			out = append(out, oracleFaults(s, p.Items, w, path+"/"+strconv.Itoa(j))...)
		}
	case map[string]any:
		known := map[string]int{}
		for _, f := range p.Fields {
			known[f.Name] = f.Part
		}
		for _, name := range p.Need {
			if _, there := v[name]; !there {
				out = append(out, at(path+step(name), api.ErrNone))
			}
		}
		var inner []api.Fault
		for _, name := range slices.Sorted(maps.Keys(v)) {
			if part, is := known[name]; is {
				inner = append(inner, oracleFaults(s, part, v[name], path+step(name))...)
			} else if !p.Extra {
				out = append(out, at(path+step(name), api.ErrName))
			}
		}
		out = append(out, inner...)
	}
	return out
}

// oracleCount is how many Defaults come into v. (Not one by one: there may be far too many.)
func oracleCount(s []api.Part, i int, v any, within map[int]float64) (n float64) {
	if kindOf(v) != s[i].Kind {
		return 0
	}
	switch v := v.(type) {
	case []any:
		for _, w := range v {
			n += oracleCount(s, s[i].Items, w, within)
		}
	case map[string]any:
		for _, f := range s[i].Fields {
			w, there := v[f.Name]
			if there {
				n += oracleCount(s, f.Part, w, within)
			} else if doc := s[f.Part].Default; doc != "" {
				if _, known := within[f.Part]; !known {
					within[f.Part] = oracleCount(s, f.Part, decode(doc), within)
				}
				n += 1 + within[f.Part]
			}
		}
	}
	return n
}

// oracleFill works in place.
func oracleFill(s []api.Part, i int, v any) {
	if kindOf(v) != s[i].Kind {
		return
	}
	switch v := v.(type) {
	case []any:
		for _, w := range v {
			oracleFill(s, s[i].Items, w)
		}
	case map[string]any:
		for _, f := range s[i].Fields {
			if _, there := v[f.Name]; !there && s[f.Part].Default != "" {
				v[f.Name] = decode(s[f.Part].Default)
			}
			if w, there := v[f.Name]; there {
				oracleFill(s, f.Part, w)
			}
		}
	}
}

// oraclePrune works in place.
func oraclePrune(s []api.Part, i int, v any) {
	if kindOf(v) != s[i].Kind {
		return
	}
	switch v := v.(type) {
	case []any:
		for _, w := range v {
			oraclePrune(s, s[i].Items, w)
		}
	case map[string]any:
		for name, w := range v {
			j := slices.IndexFunc(s[i].Fields, func(f api.Field) bool { return f.Name == name })
			if j >= 0 {
				oraclePrune(s, s[i].Fields[j].Part, w)
			} else if !s[i].Extra {
				delete(v, name)
			}
		}
	}
}

// maker makes schemas, and documents that are nearly as these ask.
type maker struct {
	r     *rand.Rand
	left  int  // how many more values there may be in a document
	many  int  // how many fields an object may have
	bushy bool // are nearly all parts objects with Defaults?
}

func (m *maker) one(of ...string) string { return of[m.r.Intn(len(of))] }

func (m *maker) name() string {
	return m.one("a", "b", "", "~", "/", "a/b", "a~1b", "0", "\n", "aa")
}

func (m *maker) fields(i, n int) []api.Field {
	if i == n-1 {
		return nil
	}
	var out []api.Field
	for range 1 + m.r.Intn(m.many) {
		name := m.name()
		if !slices.ContainsFunc(out, func(f api.Field) bool { return f.Name == name }) {
			out = append(out, field(name, i+1+m.r.Intn(min(3, n-1-i))))
		}
	}
	return out
}

func (m *maker) bounds() (int64, int64) {
	if m.r.Intn(3) > 0 {
		return math.MinInt64, math.MaxInt64
	}
	return int64(m.r.Intn(4)) - 1, int64(m.r.Intn(6)) - 1
}

func (m *maker) need(fields []api.Field) []string {
	var out []string
	for range m.r.Intn(3) {
		if len(fields) > 0 && m.r.Intn(4) > 0 {
			out = append(out, fields[m.r.Intn(len(fields))].Name)
		} else {
			out = append(out, m.name())
		}
	}
	return out
}

func (m *maker) enum(kind int) []string {
	if m.r.Intn(3) > 0 {
		return nil
	}
	var out []string
	for range 1 + m.r.Intn(3) {
		out = append(out, m.scalar(kind))
	}
	return out
}

func (m *maker) scalar(kind int) string {
	switch {
	case kind == api.KBool:
		return m.one("true", "false", " true")
	case kind == api.KNumber:
		return m.one("0", "1", "2", "3", "-1", " 4", "999999999999999999")
	case kind == api.KText && m.r.Intn(30) == 0:
		return quoted(m.r.Intn(500))
	case kind == api.KText:
		return m.one(`""`, `"a"`, `"\n"`, `"ab"`, `"\\\""`, `"abcd" `)
	}
	return m.one("null", "1", "true", `"a"`, "[]", "{}", "[{}]", `{"a":1,"b":{}}`)
}

// document is one that is mostly as the part asks; one value of noise is another one.
func (m *maker) document(s []api.Part, i, noise int) string {
	m.left--
	p := s[i]
	if m.r.Intn(noise) == 0 || m.left <= 0 {
		return m.scalar(1 + m.r.Intn(5))
	}
	switch {
	case len(p.Enum) > 0 && m.r.Intn(noise) > 1:
		return p.Enum[m.r.Intn(len(p.Enum))]
	case p.Kind == api.KList:
		var items []string
		n := m.r.Intn(4)
		if m.r.Intn(20) == 0 {
			n = m.r.Intn(60)
		}
		for range min(n, m.left) {
			items = append(items, m.document(s, p.Items, noise))
		}
		return "[" + strings.Join(items, ",") + "]"
	case p.Kind == api.KObject:
		return m.object(s, p, noise)
	}
	return m.scalar(p.Kind)
}

func (m *maker) object(s []api.Part, p api.Part, noise int) string {
	values := map[string]string{}
	for _, f := range p.Fields {
		if slices.Contains(p.Need, f.Name) && m.r.Intn(noise) > 0 || m.r.Intn(3) == 0 {
			values[f.Name] = m.document(s, f.Part, noise)
		}
	}
	for m.r.Intn(3) == 0 || p.Extra && m.r.Intn(2) == 0 {
		name := m.name()
		if _, there := values[name]; !there && (p.Extra || m.r.Intn(noise) == 0) && !slices.ContainsFunc(p.Fields, func(f api.Field) bool { return f.Name == name }) {
			values[name] = m.scalar(api.KList)
		}
	}
	var out []string
	for name, v := range values {
		q, _ := json.Quote(name)
		out = append(out, q+":"+v)
	}
	slices.Sort(out)
	m.r.Shuffle(len(out), func(i, j int) { out[i], out[j] = out[j], out[i] })
	return "{" + strings.Join(out, m.one(",", ", ")) + "}"
}

// schema is one that is mostly right, of n parts; presets of 8 of them that can have a Default have one.
func (m *maker) schema(n, presets int) []api.Part {
	s := make([]api.Part, n)
	for i := n - 1; i >= 0; i-- {
		p := api.Part{Kind: []int{2, 3, 4, 5, 6, 6, 6}[m.r.Intn(7)]}
		if i == n-1 && p.Kind == api.KList || i == 0 && m.r.Intn(4) > 0 || m.bushy && m.r.Intn(5) > 0 {
			p.Kind = api.KObject
		}
		switch p.Kind {
		case api.KBool:
			p.Enum = m.enum(p.Kind)
		case api.KNumber, api.KText:
			p.Enum = m.enum(p.Kind)
			p.Least, p.Most = m.bounds()
		case api.KList:
			p.Items = i + 1 + m.r.Intn(min(3, n-1-i))
			p.Least, p.Most = m.bounds()
		case api.KObject:
			p.Fields = m.fields(i, n)
			p.Extra = m.r.Intn(3) == 0
			if m.r.Intn(3) == 0 {
				p.Need = m.need(p.Fields)
			}
		}
		s[i] = p
		s[i].Default = m.preset(s, i, presets)
	}
	return s
}

// preset is a Default for the part, nearly always without a fault.
func (m *maker) preset(s []api.Part, i, presets int) string {
	if !m.bushy && m.r.Intn(8) >= presets {
		return ""
	}
	for range 5 {
		m.left = m.r.Intn(40)
		doc := m.document(s, i, 1000)
		if m.r.Intn(500) == 0 || len(oracleFaults(s, i, decode(doc), "")) == 0 {
			return doc
		}
	}
	return ""
}

// spoil makes something of s wrong, mostly.
func (m *maker) spoil(s []api.Part) []api.Part {
	p := &s[m.r.Intn(len(s))]
	docs := []string{"", "x", "{", nest(11, ""), row(200, "1"), `{"a":1,"a":2}`, "1", "[]"}
	switch m.r.Intn(12) {
	case 0:
		p.Kind = m.r.Intn(9)
	case 1:
		p.Fields = append(slices.Clone(p.Fields), fieldsOf(m.r.Intn(9), m.r.Intn(len(s)+1))...)
	case 2:
		p.Need = append(slices.Clone(p.Need), names(m.r.Intn(10))...)
	case 3:
		p.Enum = append(slices.Clone(p.Enum), slices.Repeat([]string{m.one(docs...)}, m.r.Intn(10))...)
	case 4:
		p.Extra = true
	case 5:
		p.Items = m.r.Intn(len(s)+2) - 1
	case 6:
		p.Least = int64(m.r.Intn(3) - 1)
	case 7:
		p.Most = int64(m.r.Intn(3) - 1)
	case 8:
		p.Default = m.one(docs...)
	case 9:
		for i := range p.Fields {
			p.Fields[i].Name = m.one("a", "b", "c", "d", "e", "f", "g", "h")
		}
	case 10:
		for i := range p.Fields {
			p.Fields[i].Part += m.r.Intn(3) - 1
		}
	case 11:
		p.Default = m.document(s[:1], 0, 1)
	}
	return s
}

// againstOracles asks all calls about s and doc, and answers what came of them.
func againstOracles(t *testing.T, s []api.Part, doc string) (e api.Errno, faults []api.Fault, filled api.Errno, come float64) {
	t.Helper()
	e = oracleCheck(s)
	checks(t, s, e)
	if e != api.OK {
		return e, nil, 0, 0
	}
	faults = oracleFaults(s, 0, decode(doc), "")
	finds(t, s, doc, faults...)

	v := decode(doc)
	oraclePrune(s, 0, v)
	made, f := told(v)
	prunes(t, s, doc, made, f)

	v = decode(doc)
	come = oracleCount(s, 0, v, map[int]float64{})
	made, filled = "", api.ErrLarge
	if come <= 1000 {
		oracleFill(s, 0, v)
		made, filled = told(v)
	}
	fills(t, s, doc, made, filled)
	return e, faults, filled, come
}

// together asks for what holds between the calls.
func together(t *testing.T, s []api.Part, doc string, faults []api.Fault) {
	t.Helper()
	filled, e := schema.Fill(s, doc)
	pruned, _ := schema.Prune(s, doc)
	// Pruning takes nothing but what is told by its name. (That may be needed, and be told as missing from then on.)
	left, _ := schema.Faults(s, pruned)
	ofNames := func(f api.Fault) bool { return f.What == api.ErrNone || f.What == api.ErrName }
	if slices.ContainsFunc(left, func(f api.Fault) bool { return f.What == api.ErrName }) ||
		!slices.Equal(slices.DeleteFunc(left, ofNames), slices.DeleteFunc(slices.Clone(faults), ofNames)) {
		t.Errorf("Prune(%s, %s) = %s, which has %s, not %s", show(s), doc, pruned, show(left), show(faults))
	}
	if e != api.OK {
		return
	}
	// Both ways round: what comes by a Default is known.
	both, e := schema.Prune(s, filled)
	fills(t, s, pruned, both, e)
	// Nothing is worse for what has come, and what was not there is told no more.
	finds(t, s, filled, slices.DeleteFunc(slices.Clone(faults), func(f api.Fault) bool {
		_, e := ptr.Get(filled, f.Path)
		return f.What == api.ErrNone && e == api.OK
	})...)
	if len(faults) == 0 && pruned != canonOf(t, doc) {
		t.Errorf("Prune(%s, %s) = %s, where nothing is wrong", show(s), doc, pruned)
	}
}

func canonOf(t *testing.T, doc string) string {
	t.Helper()
	s, e := json.Canon(doc)
	if e != api.OK {
		t.Errorf("%s: %d", doc, e)
	}
	return s
}

// P18, P19, P20: many schemas and documents.
func TestMany(t *testing.T) {
	m := &maker{r: rand.New(rand.NewSource(7))}
	checked, found, made := map[api.Errno]int{}, map[api.Errno]int{}, map[api.Errno]int{}
	some, clean, blownUp, deepest := 0, 0, 0, 0
	for range 20000 {
		n := 1 + m.r.Intn(9)
		if m.r.Intn(4) == 0 {
			n = 1 + m.r.Intn(31)
		}
		m.many, m.bushy = []int{1, 2, 5, 5, 8}[m.r.Intn(5)], m.r.Intn(8) == 0
		s := m.schema(n, 1+m.r.Intn(8))
		m.left = 1 + m.r.Intn(100)
		doc := m.document(s, 0, []int{4, 12, 100, 1000}[m.r.Intn(4)])
		if _, e := json.Kind(doc); e != api.OK {
			continue
		}
		if m.r.Intn(6) == 0 {
			s = m.spoil(s)
		}
		if m.r.Intn(12) == 0 && len(s) > 0 {
			s = m.spoil(s)
		}
		e, faults, filled, come := againstOracles(t, s, doc)
		checked[e]++
		if e != api.OK {
			continue
		}
		together(t, s, doc, faults)
		made[filled]++
		for _, f := range faults {
			found[f.What]++
			deepest = max(deepest, strings.Count(f.Path, "/"))
		}
		switch {
		case come > 1000:
			blownUp++
		case come > 0 && filled == api.OK:
			some++
		}
		if len(faults) == 0 && strings.Count(doc, ":") > 2 {
			clean++
		}
	}
	atLeast := func(what string, n, least int) {
		if n < least {
			t.Errorf("%s: only %d", what, n)
		}
	}
	for _, e := range []api.Errno{api.ErrArg, api.ErrLarge, api.ErrTwice, api.ErrNone, api.ErrSyntax, api.ErrDeep, api.ErrInvalid} {
		atLeast("Check with "+strconv.Itoa(int(e)), checked[e], 40)
	}
	for _, e := range []api.Errno{api.ErrKind, api.ErrInvalid, api.ErrArg, api.ErrLarge, api.ErrNone, api.ErrName} {
		atLeast("faults with "+strconv.Itoa(int(e)), found[e], 200)
	}
	for _, e := range []api.Errno{api.ErrLarge, api.ErrDeep} {
		atLeast("Fill with "+strconv.Itoa(int(e)), made[e], 30)
	}
	atLeast("Fill", some, 3000)
	atLeast("more than 1000 Defaults", blownUp, 30)
	atLeast("documents as they are to be", clean, 300)
	atLeast("steps", deepest, 6)
}

// P1: all calls answer, whatever they are given.
func TestAnswers(t *testing.T) {
	m := &maker{r: rand.New(rand.NewSource(8))}
	junk := func() string {
		b := []byte(m.one(`{"a":[1,true,"x\n"],"b":{"":null}}`, "[[[[]]]]", `"abc"`, "1", ""))
		for range m.r.Intn(3) {
			if len(b) > 0 {
				b[m.r.Intn(len(b))] = byte(m.r.Intn(256))
			}
		}
		return string(b)
	}
	odd := func() int { return []int{0, 1, 2, 3, 4, 5, 6, 7, -1, 30, math.MinInt, math.MaxInt}[m.r.Intn(12)] }
	for range 20000 {
		s := make([]api.Part, m.r.Intn(5))
		for i := range s {
			p := api.Part{Kind: 2 + m.r.Intn(5), Least: int64(odd()), Most: int64(odd()), Items: odd(), Extra: m.r.Intn(2) == 0, Default: junk()}
			if m.r.Intn(9) == 0 {
				p.Kind = odd()
			}
			for range m.r.Intn(3) {
				p.Fields = append(p.Fields, field(junk(), odd()))
				p.Need = append(p.Need, junk())
				p.Enum = append(p.Enum, junk())
			}
			s[i] = p
		}
		checks(t, s, oracleCheck(s))
		doc := junk()
		schema.Faults(s, doc)
		schema.Fill(s, doc)
		schema.Prune(s, doc)
	}
}
