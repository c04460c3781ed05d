package patch_test

import (
	"bytes"
	library "encoding/json"
	"math/rand"
	"regexp"
	"slices"
	"strconv"
	"strings"
	"testing"

	"seneschal/api"
	"seneschal/patch"
)

func decode(s string) any {
	in := library.NewDecoder(strings.NewReader(s))
	in.UseNumber()
	var v any
	if err := in.Decode(&v); err != nil {
		panic(err)
	}
	return v
}

func encode(v any) string {
	var out bytes.Buffer
	to := library.NewEncoder(&out)
	to.SetEscapeHTML(false)
	if err := to.Encode(v); err != nil {
		panic(err)
	}
	return strings.TrimSuffix(out.String(), "\n")
}

// extent answers how many values v has, and how many lists and objects in one another.
func extent(v any) (int, int) {
	var inner []any
	switch v := v.(type) {
	case map[string]any:
		for _, w := range v {
			inner = append(inner, w)
		}
	case []any:
		inner = v
	default:
		return 1, 0
	}
	nodes, deep := 1, 1
	for _, w := range inner {
		n, d := extent(w)
		nodes, deep = nodes+n, max(deep, d+1)
	}
	return nodes, deep
}

func told(v any) (string, api.Errno) {
	s := encode(v)
	nodes, deep := extent(v)
	switch {
	case deep > 10:
		return "", api.ErrDeep
	case nodes > 200 || len(s) > 2000:
		return "", api.ErrLarge
	}
	return s, api.OK
}

var (
	pointerForm = regexp.MustCompile(`^(/([^~/]|~0|~1)*)*$`)
	placeForm   = regexp.MustCompile(`^(0|[1-9][0-9]{0,3})$`)
)

func readWay(p string) ([]string, api.Errno) {
	if !pointerForm.MatchString(p) {
		return nil, api.ErrForm
	}
	out := strings.Split(p, "/")[1:]
	if len(out) > 10 {
		return nil, api.ErrLarge
	}
	for i, s := range out {
		out[i] = strings.NewReplacer("~0", "~", "~1", "/").Replace(s)
	}
	return out, api.OK
}

func writeWay(steps []string) string {
	p := ""
	for _, s := range steps {
		p += "/" + strings.NewReplacer("~", "~0", "/", "~1").Replace(s)
	}
	return p
}

// placeIn answers the place that the step is in a list, if it is at most that.
func placeIn(step string, most int) (int, bool) {
	i, _ := strconv.Atoi(step)
	return i, placeForm.MatchString(step) && i <= most
}

// lookUp answers what the steps lead to; as a text, so that nothing is shared.
func lookUp(v any, steps []string) (string, bool) {
	for _, s := range steps {
		there := false
		switch w := v.(type) {
		case map[string]any:
			v, there = w[s]
		case []any:
			var i int
			if i, there = placeIn(s, len(w)-1); there {
				v = w[i]
			}
		}
		if !there {
			return "", false
		}
	}
	return encode(v), true
}

// rebuilt answers v with what of answers for the value to which the steps lead; it works in place.
func rebuilt(v any, steps []string, of func(any) any) any {
	if len(steps) == 0 {
		return of(v)
	}
	switch w := v.(type) {
	case map[string]any:
		w[steps[0]] = rebuilt(w[steps[0]], steps[1:], of)
	case []any:
		i, _ := strconv.Atoi(steps[0])
		w[i] = rebuilt(w[i], steps[1:], of)
	}
	return v
}

// oracle is a document, as a text, with the steps that lead back from it, the first one first.
type oracle struct {
	doc  string
	back []api.Op
}

func (o *oracle) leadsBack(kind int, path []string, value string) {
	o.back = append([]api.Op{{Kind: kind, Path: writeWay(path), Value: value}}, o.back...)
}

func (o *oracle) put(path []string, value string) api.Errno {
	if len(path) == 0 {
		o.leadsBack(api.OpReplace, nil, o.doc)
		o.doc = value
		return api.OK
	}
	ahead, last := path[:len(path)-1], path[len(path)-1]
	held, there := lookUp(decode(o.doc), ahead)
	if !there {
		return api.ErrNone
	}
	switch held[0] {
	case '{':
		if was, there := lookUp(decode(o.doc), path); there {
			o.leadsBack(api.OpReplace, path, was)
		} else {
			o.leadsBack(api.OpRemove, path, "")
		}
		o.doc = encode(rebuilt(decode(o.doc), ahead, func(v any) any {
			v.(map[string]any)[last] = decode(value)
			return v
		}))
		return api.OK
	case '[':
		n := len(decode(held).([]any))
		if last == "-" {
			last = strconv.Itoa(n)
		}
		i, is := placeIn(last, n)
		if !is {
			return api.ErrNone
		}
		o.leadsBack(api.OpRemove, append(slices.Clone(ahead), last), "")
		o.doc = encode(rebuilt(decode(o.doc), ahead, func(v any) any {
			return slices.Insert(v.([]any), i, decode(value))
		}))
		return api.OK
	}
	return api.ErrNone
}

func (o *oracle) cut(path []string) api.Errno {
	if len(path) == 0 {
		return api.ErrArg
	}
	was, there := lookUp(decode(o.doc), path)
	if !there {
		return api.ErrNone
	}
	o.leadsBack(api.OpAdd, path, was)
	last := path[len(path)-1]
	o.doc = encode(rebuilt(decode(o.doc), path[:len(path)-1], func(v any) any {
		if fields, is := v.(map[string]any); is {
			delete(fields, last)
			return fields
		}
		i, _ := strconv.Atoi(last)
		return slices.Delete(v.([]any), i, i+1)
	}))
	return api.OK
}

func (o *oracle) move(from, path []string) api.Errno {
	was, there := lookUp(decode(o.doc), from)
	switch a, b := writeWay(from), writeWay(path); {
	case strings.HasPrefix(b, a+"/"):
		return api.ErrArg
	case !there:
		return api.ErrNone
	case a == b:
		return api.OK
	}
	o.cut(from)
	return o.put(path, was)
}

func (o *oracle) take(op api.Op) api.Errno {
	if op.Kind < 1 || op.Kind > 6 {
		return api.ErrArg
	}
	path, e := readWay(op.Path)
	if e != api.OK {
		return e
	}
	var from []string
	if op.Kind == api.OpMove || op.Kind == api.OpCopy {
		if from, e = readWay(op.From); e != api.OK {
			return e
		}
	}
	value := ""
	if op.Kind == api.OpAdd || op.Kind == api.OpReplace || op.Kind == api.OpTest {
		if !library.Valid([]byte(op.Value)) {
			return api.ErrSyntax
		}
		value = encode(decode(op.Value))
	}
	was, there := lookUp(decode(o.doc), path)
	switch op.Kind {
	case api.OpAdd:
		e = o.put(path, value)
	case api.OpRemove:
		e = o.cut(path)
	case api.OpReplace:
		if !there {
			return api.ErrNone
		}
		o.leadsBack(api.OpReplace, path, was)
		o.doc = encode(rebuilt(decode(o.doc), path, func(any) any { return decode(value) }))
	case api.OpMove:
		e = o.move(from, path)
	case api.OpCopy:
		if was, there = lookUp(decode(o.doc), from); !there {
			return api.ErrNone
		}
		e = o.put(path, was)
	case api.OpTest:
		if !there {
			return api.ErrNone
		}
		if was != value {
			return api.ErrTest
		}
	}
	if e == api.OK {
		_, e = told(decode(o.doc))
	}
	return e
}

type maker struct {
	r    *rand.Rand
	left int
}

func (m *maker) name() string {
	names := []string{"a", "b", "", "0", "1", "-", "~", "/", "a/b", "\n", `"`, "01"}
	return names[m.r.Intn(len(names))]
}

func (m *maker) value(deep int) any {
	m.left--
	kind := m.r.Intn(9)
	if deep <= 0 || m.left <= 0 {
		kind = 8
	}
	switch {
	case kind < 4:
		v := []any{}
		for n := m.r.Intn(14); n > 0 && m.left > 0; n-- {
			v = append(v, m.value(deep-1))
		}
		return v
	case kind < 8:
		v := map[string]any{}
		for n := m.r.Intn(6); n > 0 && m.left > 0; n-- {
			v[m.name()] = m.value(deep - 1)
		}
		return v
	}
	return []any{nil, true, false, library.Number("-7"), library.Number("0"), "x", "\"\\\n\t", strings.Repeat("y", m.r.Intn(60))}[m.r.Intn(8)]
}

// document is one of at most that many values, as it is as a rule within the limits.
func (m *maker) document(nodes, deep int) string {
	for {
		m.left = 1 + m.r.Intn(nodes)
		if s, e := told(m.value(m.r.Intn(deep + 1))); e == api.OK {
			return s
		}
	}
}

// way answers a pointer that leads into v, as a rule.
func (m *maker) way(v any) string {
	var out []string
	for len(out) < 10 && m.r.Intn(6) > 0 {
		step, stray := m.name(), m.r.Intn(30) == 0
		var next any
		switch w := v.(type) {
		case map[string]any:
			names := slices.Sorted(func(yield func(string) bool) {
				for name := range w {
					yield(name)
				}
			})
			if len(names) > 0 && m.r.Intn(5) > 0 {
				step = names[m.r.Intn(len(names))]
			}
			next = w[step]
		case []any:
			i := m.r.Intn(len(w) + 1)
			if i < len(w) {
				next = w[i]
			}
			if !stray {
				step = strconv.Itoa(i)
			}
			if m.r.Intn(8) == 0 {
				step, next = "-", nil
			}
		default:
			if !stray {
				return writeWay(out)
			}
		}
		out, v = append(out, step), next
		if next == nil && !stray {
			break
		}
	}
	return writeWay(out)
}

// op answers a step that has no error in doc, as a rule.
func (m *maker) op(doc string) api.Op {
	v := decode(doc)
	op := api.Op{Kind: 1 + m.r.Intn(6), Path: m.way(v), From: m.way(v), Value: m.document(1+m.r.Intn(60), 4)}
	if op.Path == "" && m.r.Intn(4) > 0 {
		op.Path = m.way(v)
	}
	if m.r.Intn(12) == 0 {
		op.Path = op.From
	}
	if there, is := m.lookUp(v, op.Path); op.Kind == api.OpTest && is && m.r.Intn(15) > 0 {
		op.Value = there
	}
	if m.r.Intn(200) == 0 {
		op.Kind = m.r.Intn(12) - 3
	}
	for _, p := range []*string{&op.Path, &op.From, &op.Value} {
		if m.r.Intn(300) == 0 {
			*p += []string{"~", strings.Repeat("/a", 10), "x", "]"}[m.r.Intn(4)]
		}
	}
	return op
}

func (m *maker) lookUp(v any, p string) (string, bool) {
	steps, e := readWay(p)
	if e != api.OK {
		return "", false
	}
	return lookUp(v, steps)
}

// P14, P15: documents and steps by chance, against the library's values; and what leads back does.
func TestOracle(t *testing.T) {
	m := maker{r: rand.New(rand.NewSource(6))}
	ends, kinds, lengths := map[api.Errno]int{}, map[int]int{}, map[int]int{}
	for range 2000 {
		doc := m.document(199, 10)
		o := oracle{doc: encode(decode(doc))}
		var ops []api.Op
		e := api.OK
		for most := min(m.r.Intn(46), 40); len(ops) < most && e == api.OK; {
			before := o
			op := m.op(o.doc)
			f := o.take(op)
			// Mostly on, so that there are long ones, and so that the error that comes most is not all that comes.
			if f == api.ErrNone && m.r.Intn(30) > 0 || f != api.OK && m.r.Intn(3) > 0 {
				o = before
				continue
			}
			ops, e = append(ops, op), f
			if f == api.OK {
				kinds[op.Kind]++
			}
		}
		ends[e]++
		if e != api.OK {
			fails(t, doc, append(ops, ops[:min(len(ops), 40-len(ops))]...), len(ops)-1, e)
			continue
		}
		lengths[len(ops)]++
		makes(t, doc, ops, o.doc, o.back...)
	}
	for _, e := range []api.Errno{api.OK, api.ErrArg, api.ErrForm, api.ErrSyntax, api.ErrNone, api.ErrTest, api.ErrDeep, api.ErrLarge} {
		if ends[e] < 10 {
			t.Errorf("error %d came %d times only", e, ends[e])
		}
	}
	for k := 1; k <= 6; k++ {
		if kinds[k] < 1000 {
			t.Errorf("kind %d was done %d times only", k, kinds[k])
		}
	}
	if lengths[40] < 10 {
		t.Errorf("40 steps came %d times only", lengths[40])
	}
}

// P14, P15: every step of two ways in a few small documents.
func TestUniverse(t *testing.T) {
	ways := []string{"", "/", "/a", "/b", "/a/a", "/a/b", "/a/0", "/0", "/1", "/2", "/3", "/-", "/0/0", "/0/1", "/1/0", "/1/-", "/-/0", "/a/-", "/a/1", "/0/a", "/00", "/a/0/0", "/1/a"}
	docs := []string{"null", "7", "{}", "[]", `{"a":1}`, `{"a":{},"b":2}`, `{"a":{"a":1,"b":[]}}`, `{"a":[1,2]}`, `{"a":[[1]],"b":{"a":1}}`, "[1]", "[1,2]", "[1,2,3]", "[[1],[2]]", `[{"a":1},[]]`, `[[[]],{"a":{}}]`, `{"0":1,"1":{"0":2},"-":[]}`}
	for _, doc := range docs {
		for _, path := range ways {
			for _, from := range ways {
				for kind := range 8 {
					op := api.Op{Kind: kind, Path: path, From: from, Value: "[7]"}
					o := oracle{doc: encode(decode(doc))}
					if e := o.take(op); e != api.OK {
						fails(t, doc, list(op), 0, e)
					} else {
						makes(t, doc, list(op), o.doc, o.back...)
					}
				}
			}
		}
	}
}

// P1: whatever is handed in, the calls answer.
func TestAnswers(t *testing.T) {
	r := rand.New(rand.NewSource(7))
	parts := []string{"", "/", "a", "0", "-", "~0", "~", "[", "]", "{", "}", `"`, `"a":1`, "null", ",", "1", "\x00", "\xff", " ", nest(5, "1")}
	junk := func() string {
		s := ""
		for range r.Intn(6) {
			s += parts[r.Intn(len(parts))]
		}
		return s
	}
	for range 30000 {
		doc := []string{"{}", "[]", `{"a":[1,{"0":null}],"0":[[]]}`, "[[1,2],{}]", junk()}[r.Intn(5)]
		ops := make([]api.Op, r.Intn(5))
		for i := range ops {
			ops[i] = api.Op{Kind: r.Intn(9) - 1, Path: junk(), From: junk(), Value: junk()}
		}
		s, n, e := patch.Apply(doc, ops)
		back, f := patch.Invert(doc, ops)
		if e != f || e == api.OK && n != len(ops) || e != api.OK && (s != "" || back != nil || n > 0 && n >= len(ops)) {
			t.Errorf("%q, %s: %q, %d, %d, %s, %d", doc, show(ops), s, n, e, show(back), f)
		}
	}
}
