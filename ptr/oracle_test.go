package ptr_test

import (
	"bytes"
	library "encoding/json"
	"math/rand"
	"regexp"
	"strconv"
	"strings"
	"testing"

	"seneschal/api"
	"seneschal/ptr"
)

var (
	wellFormed = regexp.MustCompile(`^(/([^~/]|~0|~1)*)*$`)
	placeForm  = regexp.MustCompile(`^(0|[1-9][0-9]{0,3})$`)
)

// oracleSteps reads p sign by sign.
func oracleSteps(p string) ([]string, api.Errno) {
	if !wellFormed.MatchString(p) {
		return nil, api.ErrForm
	}
	var out []string
	for i := 0; i < len(p); i++ {
		switch {
		case p[i] == '/':
			out = append(out, "")
		case p[i] == '~':
			i++
			out[len(out)-1] += string("~/"[p[i]-'0'])
		default:
			out[len(out)-1] += p[i : i+1]
		}
	}
	if len(out) > 10 {
		return nil, api.ErrLarge
	}
	return out, api.OK
}

// P9: every text of up to 7 of these signs, and long ones by chance; what Join makes of steps leads back to them.
func TestStepsOracle(t *testing.T) {
	check := func(p string) {
		want, e := oracleSteps(p)
		steps(t, p, want, e)
		if e == api.OK {
			join(t, want, p, api.OK)
		}
	}
	var all func(p string, more int)
	all = func(p string, more int) {
		check(p)
		for i := 0; i < 5 && more > 0; i++ {
			all(p+"/~01a"[i:i+1], more-1)
		}
	}
	all("", 7)
	r := rand.New(rand.NewSource(1))
	parts := []string{"/", "/", "~0", "~1", "a", "0", "\xff"}
	for range 20000 {
		p := "/"
		for range r.Intn(30) {
			p += parts[r.Intn(len(parts))]
		}
		if r.Intn(10) == 0 {
			p += "~"
		}
		check(p)
	}
}

func decode(s string) any {
	in := library.NewDecoder(strings.NewReader(s))
	in.UseNumber()
	var v any
	if err := in.Decode(&v); err != nil {
		panic(err)
	}
	return v
}

func encode(v any) string {
	var out bytes.Buffer
	to := library.NewEncoder(&out)
	to.SetEscapeHTML(false)
	if err := to.Encode(v); err != nil {
		panic(err)
	}
	return strings.TrimSuffix(out.String(), "\n")
}

// extent answers how many values v has, and how many lists and objects in one another.
func extent(v any) (int, int) {
	var inner []any
	switch v := v.(type) {
	case map[string]any:
		for _, w := range v {
			inner = append(inner, w)
		}
	case []any:
		inner = v
	default:
		return 1, 0
	}
	nodes, deep := 1, 1
	for _, w := range inner {
		n, d := extent(w)
		nodes, deep = nodes+n, max(deep, d+1)
	}
	return nodes, deep
}

func told(v any) (string, api.Errno) {
	s := encode(v)
	nodes, deep := extent(v)
	switch {
	case deep > 10:
		return "", api.ErrDeep
	case nodes > 200 || len(s) > 2000:
		return "", api.ErrLarge
	}
	return s, api.OK
}

// at answers the place that the step is in a list of n values, or -1.
func at(step string, n int) int {
	if !placeForm.MatchString(step) {
		return -1
	}
	i := 0
	for _, c := range step {
		i = i*10 + int(c-'0')
	}
	if i >= n {
		return -1
	}
	return i
}

// oracle puts set where the steps lead in a decoded document, or takes away what is there; it works in place.
func oracle(v any, steps []string, set any, cut bool) (any, api.Errno) {
	if len(steps) == 0 {
		return set, api.OK
	}
	s := steps[0]
	switch v := v.(type) {
	case map[string]any:
		w, there := v[s]
		if !there && (cut || len(steps) > 1) {
			return nil, api.ErrNone
		}
		if cut && len(steps) == 1 {
			delete(v, s)
			return v, api.OK
		}
		w, e := oracle(w, steps[1:], set, cut)
		v[s] = w
		return v, e
	case []any:
		i := at(s, len(v))
		if len(steps) == 1 && !cut && i < 0 && (s == "-" || at(s, len(v)+1) == len(v)) {
			return append(v, set), api.OK
		}
		if i < 0 {
			return nil, api.ErrNone
		}
		if cut && len(steps) == 1 {
			return append(v[:i:i], v[i+1:]...), api.OK
		}
		w, e := oracle(v[i], steps[1:], set, cut)
		v[i] = w
		return v, e
	}
	return nil, api.ErrNone
}

func oracleGet(v any, steps []string) (any, api.Errno) {
	for _, s := range steps {
		switch w := v.(type) {
		case map[string]any:
			inner, there := w[s]
			if !there {
				return nil, api.ErrNone
			}
			v = inner
		case []any:
			if at(s, len(w)) < 0 {
				return nil, api.ErrNone
			}
			v = w[at(s, len(w))]
		default:
			return nil, api.ErrNone
		}
	}
	return v, api.OK
}

type maker struct {
	r    *rand.Rand
	left int
}

func (m *maker) name() string {
	names := []string{"a", "b", "", "0", "1", "-", "~", "/", "a/b", "\n", `"`, "01"}
	return names[m.r.Intn(len(names))]
}

func (m *maker) value(deep int) any {
	m.left--
	kind := m.r.Intn(9)
	if deep <= 0 || m.left <= 0 {
		kind = 8
	}
	switch {
	case kind < 4:
		v := []any{}
		for n := m.r.Intn(14); n > 0 && m.left > 0; n-- {
			v = append(v, m.value(deep-1))
		}
		return v
	case kind < 8:
		v := map[string]any{}
		for n := m.r.Intn(6); n > 0 && m.left > 0; n-- {
			v[m.name()] = m.value(deep - 1)
		}
		return v
	}
	return []any{nil, true, false, library.Number("-7"), library.Number("0"), "x", "\"\\\n\t"}[m.r.Intn(7)]
}

// way answers steps that lead into v, as a rule.
func (m *maker) way(v any) []string {
	var out []string
	for len(out) < 10 && m.r.Intn(8) > 0 {
		var next any
		step := m.name()
		switch w := v.(type) {
		case map[string]any:
			if m.r.Intn(10) > 0 {
				for range 20 {
					if _, there := w[step]; there {
						break
					}
					step = m.name()
				}
			}
			next = w[step]
		case []any:
			if n := len(w); m.r.Intn(10) > 0 {
				i := m.r.Intn(n + 2)
				step = strconv.Itoa(i)
				if i < n {
					next = w[i]
				}
			}
		default:
			if m.r.Intn(4) > 0 {
				return out
			}
		}
		out, v = append(out, step), next
	}
	return out
}

// P10, P8: documents by chance, against the library's values.
func TestOracle(t *testing.T) {
	m := maker{r: rand.New(rand.NewSource(2))}
	seen := map[api.Errno]int{}
	for range 20000 {
		m.left = 1 + m.r.Intn(199)
		doc := encode(m.value(m.r.Intn(11)))
		m.left = 1 + m.r.Intn(150)
		set := encode(m.value(m.r.Intn(9)))
		if len(doc) > 2000 || len(set) > 2000 {
			continue
		}
		way := m.way(decode(doc))
		p, e := ptr.Join(way)
		if e != api.OK {
			t.Fatal(way, e)
		}

		want := ""
		v, e := oracleGet(decode(doc), way)
		if e == api.OK {
			want, e = told(v)
		}
		get(t, doc, p, want, e)

		want = ""
		v, e = oracle(decode(doc), way, decode(set), false)
		if e == api.OK {
			want, e = told(v)
		}
		put(t, doc, p, set, want, e)
		seen[e]++

		want = ""
		v, e = nil, api.ErrArg
		if len(way) > 0 {
			v, e = oracle(decode(doc), way, nil, true)
		}
		if e == api.OK {
			want, e = told(v)
		}
		cut(t, doc, p, want, e)
	}
	for _, e := range []api.Errno{api.OK, api.ErrNone, api.ErrDeep, api.ErrLarge} {
		if seen[e] < 50 {
			t.Errorf("error %d came %d times only", e, seen[e])
		}
	}
}
