package fields_test

import (
	"bytes"
	library "encoding/json"
	"maps"
	"math/rand"
	"slices"
	"strconv"
	"strings"
	"testing"

	"seneschal/api"
	"seneschal/fields"
	"seneschal/json"
	"seneschal/ptr"
)

func decode(s string) any {
	var v any
	if err := library.Unmarshal([]byte(s), &v); err != nil {
		panic(err)
	}
	return v
}

func encode(v any) string {
	var out bytes.Buffer
	to := library.NewEncoder(&out)
	to.SetEscapeHTML(false)
	if err := to.Encode(v); err != nil {
		panic(err)
	}
	return strings.TrimSuffix(out.String(), "\n")
}

func count(v any) int {
	n := 1
	switch v := v.(type) {
	case map[string]any:
		for _, w := range v {
			n += count(w)
		}
	case []any:
		for _, w := range v {
			n += count(w)
		}
	}
	return n
}

func told(v any) (string, api.Errno) {
	s := encode(v)
	if len(s) > 2000 || count(v) > 200 {
		return "", api.ErrLarge
	}
	return s, api.OK
}

// They are made once: making one takes far longer than using it.
var (
	writing = strings.NewReplacer("~", "~0", "/", "~1")
	reading = strings.NewReplacer("~0", "~", "~1", "/")
)

func pathOf(steps []string) string {
	p := ""
	for _, s := range steps {
		p += "/" + writing.Replace(s)
	}
	return p
}

func stepsOf(p string) []string {
	var steps []string
	for _, s := range strings.Split(p, "/")[1:] {
		steps = append(steps, reading.Replace(s))
	}
	return steps
}

// oracleLeaves tells the leaves of an object, each with its value, by the pointers to them.
func oracleLeaves(v map[string]any, way []string, out map[string]any) map[string]any {
	for name, w := range v {
		steps := append(slices.Clone(way), name)
		if o, is := w.(map[string]any); is && len(o) > 0 {
			oracleLeaves(o, steps, out)
		} else {
			out[pathOf(steps)] = w
		}
	}
	return out
}

// nothing is what lies where a way leads nowhere; no document encodes as it does.
type nothing struct{ Nothing int }

func placeOf(s string, l []any) int {
	for i := range l {
		if s == strconv.Itoa(i) {
			return i
		}
	}
	return -1
}

func oracleFind(v any, steps []string) any {
	for _, s := range steps {
		var inner any = nothing{}
		switch v := v.(type) {
		case map[string]any:
			if w, there := v[s]; there {
				inner = w
			}
		case []any:
			if i := placeOf(s, v); i >= 0 {
				inner = v[i]
			}
		}
		v = inner
	}
	return v
}

// oracleCut takes out what is there; it works in place, but for lists.
func oracleCut(v any, steps []string) any {
	switch v := v.(type) {
	case map[string]any:
		if len(steps) == 1 {
			delete(v, steps[0])
		} else {
			v[steps[0]] = oracleCut(v[steps[0]], steps[1:])
		}
	case []any:
		i := placeOf(steps[0], v)
		if len(steps) == 1 {
			return append(slices.Clone(v[:i]), v[i+1:]...)
		}
		v[i] = oracleCut(v[i], steps[1:])
	}
	return v
}

func oraclePut(v map[string]any, steps []string, item any) {
	for _, s := range steps[:len(steps)-1] {
		inner, is := v[s].(map[string]any)
		if !is {
			inner = map[string]any{}
			v[s] = inner
		}
		v = inner
	}
	v[steps[len(steps)-1]] = item
}

func oracleTouch(p, q string) bool {
	a, b := stepsOf(p), stepsOf(q)
	n := min(len(a), len(b))
	return slices.Equal(a[:n], b[:n])
}

type outcome struct {
	made string
	then []api.Owned
	bad  []string
	e    api.Errno
}

// oracleApply follows P27 word by word, of objects and of what is as P26 asks.
func oracleApply(live string, l []api.Owned, manager, want string, force bool) outcome {
	doc, leaves := decode(live), oracleLeaves(decode(want).(map[string]any), nil, map[string]any{})
	wanted := slices.Sorted(maps.Keys(leaves))
	fits := func(p, leaf string) bool {
		return p == leaf && encode(oracleFind(doc, stepsOf(p))) == encode(leaves[leaf])
	}
	var bad []string
	var had []string
	var then []api.Owned
	for _, o := range l {
		if o.Manager == manager {
			had = o.Paths
			continue
		}
		kept := api.Owned{Manager: o.Manager}
		for _, p := range o.Paths {
			free := true
			for _, leaf := range wanted {
				if oracleTouch(p, leaf) && !fits(p, leaf) {
					bad, free = append(bad, leaf), false
				}
			}
			if free {
				kept.Paths = append(kept.Paths, p)
			}
		}
		then = append(then, kept)
	}
	slices.Sort(bad)
	if bad = slices.Compact(bad); len(bad) > 0 && !force {
		return outcome{bad: bad, e: api.ErrConflict}
	}
	for _, p := range had {
		touched := slices.ContainsFunc(then, func(o api.Owned) bool {
			return slices.ContainsFunc(o.Paths, func(q string) bool { return oracleTouch(p, q) })
		})
		if there := oracleFind(doc, stepsOf(p)); !touched && there != any(nothing{}) && !slices.Contains(wanted, p) {
			doc = oracleCut(doc, stepsOf(p))
		}
	}
	for _, leaf := range wanted {
		oraclePut(doc.(map[string]any), stepsOf(leaf), leaves[leaf])
	}
	then = append(then, api.Owned{Manager: manager, Paths: wanted})
	then = slices.DeleteFunc(then, func(o api.Owned) bool { return len(o.Paths) == 0 })
	slices.SortFunc(then, func(a, b api.Owned) int { return strings.Compare(a.Manager, b.Manager) })
	made, e := told(doc)
	if len(then) > 6 || e != api.OK {
		return outcome{e: api.ErrLarge}
	}
	return outcome{made: made, then: then}
}

// againstOracle asks Apply, and answers what came of it.
func againstOracle(t *testing.T, live string, l []api.Owned, manager, want string, force bool) outcome {
	t.Helper()
	made, then, bad, e := fields.Apply(live, l, manager, want, force)
	o := oracleApply(live, l, manager, want, force)
	if made != o.made || !sameOwned(then, o.then) || !slices.Equal(bad, o.bad) || e != o.e {
		t.Errorf("Apply(%s, %q, %q, %s, %v) = %s, %q, %q, %d, want %s, %q, %q, %d", live, l, manager, want, force, made, then, bad, e, o.made, o.then, o.bad, o.e)
	}
	return outcome{made, then, bad, e}
}

// holdsThen asks what holds of all that is made: it has what is wanted, who has which parts can be handed in again, and who wants the same again changes nothing.
func holdsThen(t *testing.T, o outcome, manager, want string) {
	t.Helper()
	checks(t, o.then, api.OK)
	leaves, _ := fields.Leaves(want)
	for _, p := range leaves {
		v, _ := ptr.Get(want, p)
		w, e := ptr.Get(o.made, p)
		if same, _ := json.Same(v, w); !same || e != api.OK {
			t.Errorf("%s of %s is %s, %d, but %s was wanted", p, o.made, w, e, v)
		}
	}
	both(t, o.made, o.then, manager, want, o.made, o.then...)
}

// othersStay asks that what the others still have is as it was, where no list moves up.
func othersStay(t *testing.T, live string, o outcome, manager string) {
	t.Helper()
	for _, has := range o.then {
		for _, p := range has.Paths {
			v, e := ptr.Get(live, p)
			if w, f := ptr.Get(o.made, p); has.Manager != manager && (v != w || e != f) {
				t.Errorf("%s, which %s has, was %s (%d) of %s, and is %s (%d) of %s", p, has.Manager, v, e, live, w, f, o.made)
			}
		}
	}
}

// universe is all values of these leaves and of objects with fields a and b, so many in one another; each is canonical.
func universe(deep int, leaves ...string) []string {
	out := slices.Clone(leaves)
	if deep == 0 {
		return out
	}
	inner := append([]string{""}, universe(deep-1, leaves...)...)
	for _, v := range inner {
		for _, w := range inner {
			var fields []string
			if v != "" {
				fields = append(fields, `"a":`+v)
			}
			if w != "" {
				fields = append(fields, `"b":`+w)
			}
			out = append(out, "{"+strings.Join(fields, ",")+"}")
		}
	}
	return out
}

// someOf is all lists of some of these, in their order; none of them, too.
func someOf(l ...string) [][]string {
	if len(l) == 0 {
		return [][]string{nil}
	}
	var out [][]string
	for _, rest := range someOf(l[1:]...) {
		out = append(out, rest, append([]string{l[0]}, rest...))
	}
	return out
}

// P27: every two objects of a small universe, with all that the manager and another one may have of some pointers.
func TestUniverse(t *testing.T) {
	all := slices.DeleteFunc(universe(2, "1"), func(s string) bool { return s[0] != '{' })
	for _, had := range someOf("/a", "/a/b", "/b") {
		for _, others := range someOf("/a", "/a/a", "/a/b", "/b/c") {
			var l []api.Owned
			if len(had) > 0 {
				l = append(l, owned("kit", had...))
			}
			if len(others) > 0 {
				l = append(l, owned("ops", others...))
			}
			for i, live := range all {
				for j, want := range all {
					o := againstOracle(t, live, l, "kit", want, (i+j)%2 == 0)
					if o.e == api.OK {
						othersStay(t, live, o, "kit")
					}
				}
			}
		}
	}
	for _, live := range all {
		for _, want := range universe(1, "1", "[]", "{}")[3:] {
			for _, force := range []bool{false, true} {
				l := list(owned("kit", "/a", "/b/a"), owned("ops", "/b"))
				if o := againstOracle(t, live, l, "kit", want, force); o.e == api.OK {
					holdsThen(t, o, "kit", want)
				}
			}
		}
	}
}

// P25: all documents of small universes.
func TestLeavesOracle(t *testing.T) {
	for _, doc := range slices.Concat(universe(2, "1", "[{}]"), universe(1, "null", "{}", `{"/":{},"~":[]}`)) {
		if doc[0] != '{' {
			hasLeaves(t, doc, "")
			continue
		}
		hasLeaves(t, doc, slices.Sorted(maps.Keys(oracleLeaves(decode(doc).(map[string]any), nil, map[string]any{})))...)
	}
}

type maker struct {
	r    *rand.Rand
	left int
}

func (m *maker) name() string {
	return []string{"a", "b", "", "a!", "~", "/", "a/", "\n", `"`, "aa", "0", "1", "c"}[m.r.Intn(13)]
}

func (m *maker) value(deep int) any {
	m.left--
	kind := m.r.Intn(8)
	if deep <= 0 || m.left <= 0 {
		kind = 7
	}
	switch {
	case kind < 5:
		return m.object(deep)
	case kind < 7:
		v := []any{}
		for n := m.r.Intn(4); n > 0 && m.left > 0; n-- {
			v = append(v, m.value(deep-1))
		}
		return v
	}
	return []any{nil, true, 0, -7, "x", strings.Repeat("y", 1+m.r.Intn(90))}[m.r.Intn(6)]
}

func (m *maker) object(deep int) map[string]any {
	v := map[string]any{}
	for n := m.r.Intn(9); n > 0 && m.left > 0; n-- {
		v[m.name()] = m.value(deep - 1)
	}
	return v
}

func (m *maker) document() string {
	m.left = []int{3, 8, 20, 60, 199}[m.r.Intn(5)]
	return encode(m.object(1 + m.r.Intn(9)))
}

// other is v, with some of what is within it gone or other than it was.
func (m *maker) other(v any, deep int) any {
	o, is := v.(map[string]any)
	if !is || m.r.Intn(12) == 0 {
		return m.value(min(deep, 1))
	}
	out := map[string]any{}
	for _, name := range slices.Sorted(maps.Keys(o)) {
		switch m.r.Intn(8) {
		case 0:
		case 1:
			out[name] = m.other(o[name], deep-1)
		default:
			out[name] = o[name]
		}
	}
	return out
}

// ways tells all ways into v, through lists too.
func ways(v any, way []string) [][]string {
	var out [][]string
	further := func(step string, w any) {
		inner := append(slices.Clone(way), step)
		out = append(append(out, inner), ways(w, inner)...)
	}
	switch v := v.(type) {
	case map[string]any:
		for _, name := range slices.Sorted(maps.Keys(v)) {
			further(name, v[name])
		}
	case []any:
		for i, w := range v {
			further(strconv.Itoa(i), w)
		}
	}
	return out
}

// paths is some pointers into these documents, and some into none of them.
func (m *maker) paths(docs ...string) []string {
	all := [][]string{{"a"}, {m.name()}, {m.name(), m.name()}}
	for _, doc := range docs {
		all = append(all, ways(decode(doc), nil)...)
	}
	var out []string
	for n := 1 + m.r.Intn(6); n > 0; n-- {
		out = append(out, pathOf(all[m.r.Intn(len(all))]))
	}
	slices.Sort(out)
	return slices.Compact(out)
}

func (m *maker) owned(docs ...string) []api.Owned {
	var l []api.Owned
	for _, manager := range []string{"a", "b", "kit", "kit-a", "o1", "o2", "o3"} {
		if m.r.Intn(5) < 2 && len(l) < 6 {
			l = append(l, owned(manager, m.paths(docs...)...))
		}
	}
	return l
}

// P8, P27: documents and managers by chance, against the library's values.
func TestOracle(t *testing.T) {
	m := maker{r: rand.New(rand.NewSource(9))}
	came := map[api.Errno]int{}
	for range 4000 {
		live := m.document()
		want := m.document()
		m.left = 200
		if m.r.Intn(2) == 0 {
			o, _ := m.other(decode(live), 9).(map[string]any)
			want = encode(o)
		}
		if want == "null" || max(len(live), len(want)) > 2000 || max(count(decode(live)), count(decode(want))) > 200 {
			continue
		}
		l := m.owned(live, want)
		for _, force := range []bool{false, true} {
			o := againstOracle(t, live, l, "kit", want, force)
			came[o.e]++
			if o.e == api.OK {
				holdsThen(t, o, "kit", want)
			}
		}
	}
	if came[api.OK] < 2000 || came[api.ErrConflict] < 500 || came[api.ErrLarge] < 50 {
		t.Errorf("too few to tell anything: %v", came)
	}
}

// P27: one after the other, each by what the ones ahead of it have left.
func TestOneByOne(t *testing.T) {
	m := maker{r: rand.New(rand.NewSource(10))}
	for range 300 {
		live, l := "{}", list()
		for range 12 {
			m.left = 12
			manager, want := []string{"kit", "ops", "zoo"}[m.r.Intn(3)], encode(m.object(3))
			o := againstOracle(t, live, l, manager, want, m.r.Intn(2) == 0)
			if o.e == api.OK {
				holdsThen(t, o, manager, want)
				live, l = o.made, o.then
			}
		}
		// Once nobody wants anything any more, nothing is left but objects.
		for _, manager := range []string{"kit", "ops", "zoo"} {
			live, l, _, _ = fields.Apply(live, l, manager, "{}", false)
		}
		if hasOther(decode(live)) || len(l) != 0 {
			t.Errorf("%s is left, which %v have", live, l)
		}
	}
}

// hasOther tells whether v has anything but objects.
func hasOther(v any) bool {
	o, is := v.(map[string]any)
	for _, w := range o {
		if hasOther(w) {
			return true
		}
	}
	return !is
}

// P1: whatever is handed in, there is an answer, and nothing beside an error but the leaves in conflict.
func TestAnswers(t *testing.T) {
	r := rand.New(rand.NewSource(11))
	spoil := func(s string) string {
		for range r.Intn(3) {
			at := r.Intn(len(s) + 1)
			s = s[:at] + string([]byte{byte(r.Intn(256))}) + s[min(len(s), at+r.Intn(3)):]
		}
		return s
	}
	docs := append(universe(2, "1"), nest(10, "1"), nestFields(10, "1"), row(100, 199, "1"), "", "\x00", "{")
	texts := []string{"", "/", "/a", "/a/b", "/b", "/~0", "/a/0", "/~", "x", strings.Repeat("/a", 10), strings.Repeat("/a", 11), "kit", "ops"}
	one := func(l []string) string { return spoil(l[r.Intn(len(l))]) }
	for range 20000 {
		var l []api.Owned
		for range r.Intn(4) {
			o := owned(one([]string{"a", "kit", "ops", "z"}))
			for range r.Intn(4) {
				o.Paths = append(o.Paths, one(texts))
			}
			l = append(l, o)
		}
		live, manager, want := one(docs), one([]string{"kit", "ops", "z"}), one(docs)
		leaves, e := fields.Leaves(live)
		f := fields.Check(l)
		made, then, bad, g := fields.Apply(live, l, manager, want, r.Intn(2) == 0)
		switch {
		case e != api.OK && leaves != nil,
			g == api.OK && (made == "" || bad != nil || f != api.OK || e != api.OK),
			g != api.OK && (made != "" || then != nil),
			(g == api.ErrConflict) != (len(bad) > 0),
			e != api.OK && g != e,
			e == api.OK && f != api.OK && g != f:
			t.Errorf("of %q, %q, %q, %q: %q, %d; %d; %q, %q, %q, %d", live, l, manager, want, leaves, e, f, made, then, bad, g)
		}
	}
}
