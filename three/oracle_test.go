package three_test

import (
	"bytes"
	library "encoding/json"
	"maps"
	"math/rand"
	"slices"
	"strings"
	"testing"

	"seneschal/api"
	"seneschal/merge"
	"seneschal/ptr"
	"seneschal/three"
)

func decode(s string) any {
	var v any
	if err := library.Unmarshal([]byte(s), &v); err != nil {
		panic(err)
	}
	return v
}

func encode(v any) string {
	var out bytes.Buffer
	to := library.NewEncoder(&out)
	to.SetEscapeHTML(false)
	if err := to.Encode(v); err != nil {
		panic(err)
	}
	return strings.TrimSuffix(out.String(), "\n")
}

func count(v any) int {
	n := 1
	switch v := v.(type) {
	case map[string]any:
		for _, w := range v {
			n += count(w)
		}
	case []any:
		for _, w := range v {
			n += count(w)
		}
	}
	return n
}

func told(v any) (string, api.Errno) {
	s := encode(v)
	if len(s) > 2000 || count(v) > 200 {
		return "", api.ErrLarge
	}
	return s, api.OK
}

// nothing is what lies where there is no field; it is no object.
type nothing struct{}

func fieldOf(v any, name string) any {
	if o, is := v.(map[string]any); is {
		if w, there := o[name]; there {
			return w
		}
	}
	return nothing{}
}

// oracleMerge follows P16 word by word; it works in place.
func oracleMerge(last, live, want any) any {
	wants, is := want.(map[string]any)
	if !is {
		return want
	}
	made, is := live.(map[string]any)
	if !is {
		made = map[string]any{}
	}
	if had, is := last.(map[string]any); is {
		for name := range had {
			if _, there := wants[name]; !there {
				delete(made, name)
			}
		}
	}
	for name, w := range wants {
		made[name] = oracleMerge(fieldOf(last, name), fieldOf(made, name), w)
	}
	return made
}

// ways tells all fields of v, through objects, as pointers, each with whether it is an object.
func ways(v any, at string, out map[string]bool) map[string]bool {
	o, _ := v.(map[string]any)
	for name, w := range o {
		p := at + "/" + strings.NewReplacer("~", "~0", "/", "~1").Replace(name)
		_, out[p] = w.(map[string]any)
		ways(w, p, out)
	}
	return out
}

// oracleLost takes no walk through the three at once: what goes is each way of live and of last that want has not, where all that it leads through are objects of want.
func oracleLost(last, live, want any) []string {
	lasts, lives, wants := ways(last, "", map[string]bool{}), ways(live, "", map[string]bool{}), ways(want, "", map[string]bool{})
	_, wants[""] = want.(map[string]any)
	var lost []string
	for p := range lives {
		_, was := lasts[p]
		_, is := wants[p]
		if was && !is && wants[p[:strings.LastIndexByte(p, '/')]] {
			lost = append(lost, p)
		}
	}
	slices.Sort(lost)
	return lost
}

// hasNull tells whether a field within v, through objects, is null.
func hasNull(v any) bool {
	o, _ := v.(map[string]any)
	for _, w := range o {
		if w == nil || hasNull(w) {
			return true
		}
	}
	return false
}

// againstOracles asks both calls about the three, and answers what came of Merge and how many were lost.
func againstOracles(t *testing.T, last, live, want string) (api.Errno, int) {
	t.Helper()
	made, e := told(oracleMerge(decode(last), decode(live), decode(want)))
	merges(t, last, live, want, made, e)
	lost := oracleLost(decode(last), decode(live), decode(want))
	loses(t, last, live, want, api.OK, lost...)
	return e, len(lost)
}

// cutAway asks that what Merge makes is what it would make if nothing had been wanted before, without what is lost.
func cutAway(t *testing.T, last, live, want string) {
	t.Helper()
	made, e := three.Merge(last, live, want)
	kept, f := three.Merge("null", live, want)
	if e != api.OK || f != api.OK {
		return
	}
	lost, _ := three.Lost(last, live, want)
	for _, p := range lost {
		if kept, e = ptr.Cut(kept, p); e != api.OK {
			t.Errorf("%s is lost of %s, %s, %s, but isn't there: %d", p, last, live, want, e)
			return
		}
	}
	if kept != made {
		t.Errorf("Merge(%s, %s, %s) = %s, but without what is lost %s is left", last, live, want, made, kept)
	}
}

// asMerged asks that what is wanted for the first time is merged as package merge does it, if no null is wanted.
func asMerged(t *testing.T, live, want string) {
	t.Helper()
	if hasNull(decode(want)) {
		return
	}
	made, e := merge.Apply(live, want)
	merges(t, "{}", live, want, made, e)
}

// universe is all values of these leaves and of objects with fields a and b, so many in one another; each is canonical.
func universe(deep int, leaves ...string) []string {
	out := slices.Clone(leaves)
	if deep == 0 {
		return out
	}
	inner := append([]string{""}, universe(deep-1, leaves...)...)
	for _, v := range inner {
		for _, w := range inner {
			var fields []string
			if v != "" {
				fields = append(fields, `"a":`+v)
			}
			if w != "" {
				fields = append(fields, `"b":`+w)
			}
			out = append(out, "{"+strings.Join(fields, ",")+"}")
		}
	}
	return out
}

// P16, P17: every three values of small universes.
func TestUniverse(t *testing.T) {
	for _, all := range [][]string{universe(1, "null", "1", `[{"a":null}]`, "{}"), universe(2, "1")} {
		for _, last := range all {
			for _, live := range all {
				for _, want := range all {
					againstOracles(t, last, live, want)
					cutAway(t, last, live, want)
				}
				asMerged(t, last, live)
			}
		}
	}
}

type maker struct {
	r    *rand.Rand
	left int
	long int
}

func (m *maker) name() string {
	if m.long > 0 {
		return strings.Repeat("n", m.r.Intn(m.long))
	}
	return []string{"a", "b", "", "a!", "~", "/", "a/", "\n", `"`, "aa", "0", "c", "d"}[m.r.Intn(13)]
}

func (m *maker) value(deep int) any {
	m.left--
	kind := m.r.Intn(8)
	if deep <= 0 || m.left <= 0 {
		kind = 7
	}
	switch {
	case kind < 6:
		v := map[string]any{}
		for n := m.r.Intn(13); n > 0 && m.left > 0; n-- {
			v[m.name()] = m.value(deep - 1)
		}
		return v
	case kind == 6:
		v := []any{}
		for n := m.r.Intn(4); n > 0 && m.left > 0; n-- {
			v = append(v, m.value(deep-1))
		}
		return v
	}
	return []any{nil, true, 0, -7, "x", strings.Repeat("y", 1+m.r.Intn(60))}[m.r.Intn(6)]
}

func (m *maker) document() string {
	m.left = 1 + m.r.Intn(199)
	if m.long > 0 {
		return encode(m.value(1))
	}
	return encode(m.value(m.r.Intn(11)))
}

// other is v, with some of what is within it gone or other than it was.
func (m *maker) other(v any, deep int) any {
	o, is := v.(map[string]any)
	if !is || m.r.Intn(12) == 0 {
		return m.value(min(deep, 1))
	}
	out := map[string]any{}
	for _, name := range slices.Sorted(maps.Keys(o)) {
		switch m.r.Intn(6) {
		case 0:
		case 1, 2:
			out[name] = m.other(o[name], deep-1)
		default:
			out[name] = o[name]
		}
	}
	return out
}

// P8, P16, P17: documents by chance, against the library's values; live and want are often made of last.
func TestOracle(t *testing.T) {
	m := maker{r: rand.New(rand.NewSource(6))}
	made, lost := map[api.Errno]int{}, 0
	for range 6000 {
		m.long = []int{0, 0, 0, 300}[m.r.Intn(4)]
		last := m.document()
		live, want := m.document(), m.document()
		m.left = 200
		if m.r.Intn(2) == 0 {
			live = encode(m.other(decode(last), 9))
		}
		if m.r.Intn(2) == 0 {
			want = encode(m.other(decode(last), 9))
		}
		if max(len(last), len(live), len(want)) > 2000 || max(count(decode(live)), count(decode(want))) > 200 {
			continue
		}
		e, n := againstOracles(t, last, live, want)
		made[e]++
		lost += n
		cutAway(t, last, live, want)
		asMerged(t, live, want)
	}
	if made[api.OK] < 1000 || made[api.ErrLarge] < 100 || lost < 1000 {
		t.Errorf("too few to tell anything: %d made, %d too large, %d lost", made[api.OK], made[api.ErrLarge], lost)
	}
}

// P1: whatever is handed in, there is an answer, and nothing beside an error.
func TestAnswers(t *testing.T) {
	r := rand.New(rand.NewSource(7))
	spoil := func(s string) string {
		for range r.Intn(3) {
			at := r.Intn(len(s) + 1)
			s = s[:at] + string([]byte{byte(r.Intn(256))}) + s[min(len(s), at+r.Intn(3)):]
		}
		return s
	}
	docs := append(universe(2, "1"), nest(10, "1"), nestFields(10, "1"), fields(100, 199, "1"), "", "\x00", "{")
	one := func() string { return spoil(docs[r.Intn(len(docs))]) }
	for range 20000 {
		last, live, want := one(), one(), one()
		s, e := three.Merge(last, live, want)
		l, f := three.Lost(last, live, want)
		if e != f && (e != api.ErrLarge || f != api.OK) || e == api.OK && s == "" || e != api.OK && s != "" || f != api.OK && l != nil {
			t.Errorf("of %q, %q, %q: %q, %d; %q, %d", last, live, want, s, e, l, f)
		}
	}
}
