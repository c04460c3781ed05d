package json_test

import (
	"bytes"
	library "encoding/json"
	"math/rand"
	"regexp"
	"strings"
	"testing"

	"seneschal/api"
	"seneschal/json"
)

// The library's way of telling a value is the canonical one, since it sorts names, and since no text has bytes that it writes otherwise.
func libraryCanon(t *testing.T, s string) string {
	t.Helper()
	in := library.NewDecoder(strings.NewReader(s))
	in.UseNumber()
	var v any
	if err := in.Decode(&v); err != nil {
		t.Errorf("%q: %v", s, err)
	}
	var out bytes.Buffer
	to := library.NewEncoder(&out)
	to.SetEscapeHTML(false)
	if err := to.Encode(v); err != nil {
		t.Errorf("%q: %v", s, err)
	}
	return strings.TrimSuffix(out.String(), "\n")
}

var (
	blanks = regexp.MustCompile(`^[ \n\t]+`)
	wordAt = regexp.MustCompile(`^(null|true|false)`)
	numAt  = regexp.MustCompile(`^-?[0-9]*`)
	numOK  = regexp.MustCompile(`^(0|-?[1-9][0-9]*)$`)
	textAt = regexp.MustCompile(`^"([ !#-\[\]-~]|\\["\\nt])*"`)
)

// machine reads a text without calling itself: open has the signs of what is open, names the names that each has.
type machine struct {
	rest  string
	open  []byte
	names []map[string]int
	nodes int
}

// reading says what is wrong with s, as a machine with states.
func reading(s string) api.Errno {
	if len(s) > 2000 {
		return api.ErrLarge
	}
	m := machine{rest: s}
	for state := "value"; ; {
		m.rest = m.rest[len(blanks.FindString(m.rest)):]
		if m.rest == "" {
			if state == "behind" && len(m.open) == 0 {
				return api.OK
			}
			return api.ErrSyntax
		}
		var e api.Errno
		if state, e = m.step(state, m.rest[0]); e != api.OK {
			return e
		}
	}
}

func (m *machine) step(state string, c byte) (string, api.Errno) {
	switch {
	case (state == "value or ]" || state == "behind") && c == ']' && m.last() == '[',
		(state == "name or }" || state == "behind") && c == '}' && m.last() == '{':
		m.rest = m.rest[1:]
		m.open, m.names = m.open[:len(m.open)-1], m.names[:len(m.names)-1]
		return "behind", api.OK
	case state == "behind" && c == ',' && m.last() == '[':
		m.rest = m.rest[1:]
		return "value", api.OK
	case state == "behind" && c == ',' && m.last() == '{':
		m.rest = m.rest[1:]
		return "name", api.OK
	case state == "colon" && c == ':':
		m.rest = m.rest[1:]
		return "value", api.OK
	case state == "name" || state == "name or }":
		return m.name()
	case state == "value" || state == "value or ]":
		return m.value(c)
	}
	return "", api.ErrSyntax
}

func (m *machine) last() byte {
	if len(m.open) == 0 {
		return 0
	}
	return m.open[len(m.open)-1]
}

func (m *machine) name() (string, api.Errno) {
	n := textAt.FindString(m.rest)
	if n == "" {
		return "", api.ErrSyntax
	}
	had := m.names[len(m.names)-1]
	had[n]++
	if had[n] > 1 {
		return "", api.ErrTwice
	}
	m.rest = m.rest[len(n):]
	return "colon", api.OK
}

func (m *machine) value(c byte) (string, api.Errno) {
	if !strings.ContainsRune(`ntf"[{-0123456789`, rune(c)) {
		return "", api.ErrSyntax
	}
	if m.nodes++; m.nodes > 200 {
		return "", api.ErrLarge
	}
	if c == '[' || c == '{' {
		if len(m.open) == 10 {
			return "", api.ErrDeep
		}
		m.open, m.names = append(m.open, c), append(m.names, map[string]int{})
		m.rest = m.rest[1:]
		return map[byte]string{'[': "value or ]", '{': "name or }"}[c], api.OK
	}
	if n := numAt.FindString(m.rest); n != "" {
		if !numOK.MatchString(n) {
			return "", api.ErrSyntax
		}
		if len(strings.TrimPrefix(n, "-")) > 18 {
			return "", api.ErrLarge
		}
		m.rest = m.rest[len(n):]
		return "behind", api.OK
	}
	w := wordAt.FindString(m.rest) + textAt.FindString(m.rest)
	if w == "" {
		return "", api.ErrSyntax
	}
	m.rest = m.rest[len(w):]
	return "behind", api.OK
}

// hold holds Canon against the machine and against the library.
func hold(t *testing.T, s string) api.Errno {
	t.Helper()
	c, e := json.Canon(s)
	if want := reading(s); e != want {
		t.Errorf("Canon(%q): %d, want %d", s, e, want)
	} else if e != api.OK && c != "" {
		t.Errorf("Canon(%q): %q beside %d", s, c, e)
	} else if e == api.OK && c != libraryCanon(t, s) {
		t.Errorf("Canon(%q) = %q", s, c)
	}
	return e
}

// P5, P6, P7: every short text of some signs.
func TestShortTexts(t *testing.T) {
	var all func(s string, signs string, most int)
	all = func(s string, signs string, most int) {
		hold(t, s)
		for i := 0; len(s) < most && i < len(signs); i++ {
			all(s+signs[i:i+1], signs, most)
		}
	}
	all("", "[]{},:1 ", 6)
	all("", "[]{}\",:\\n-01", 4)
	all("", "\"\\nt\n a", 6)
	all("", "-019 ,[]", 5)
	all(`{"a":1,`, "\"a:1},", 6)
}

func randomValue(r *rand.Rand, room int) string {
	pick := r.Intn(9)
	if room == 0 {
		pick = r.Intn(5)
	}
	blank := []string{"", "", "", "", " ", "\n", "\t "}[r.Intn(7)]
	var s string
	switch pick {
	case 0:
		s = []string{"null", "true", "false"}[r.Intn(3)]
	case 1:
		s = []string{"0", "-1", "12", "999999999999999999", "-100000000000000000"}[r.Intn(5)]
	case 2, 3:
		s = randomText(r)
	case 4:
		s = []string{"[]", "{}", "[ ]", "{ }"}[r.Intn(4)]
	case 5, 6:
		var items []string
		for range r.Intn(5) {
			items = append(items, randomValue(r, room-1))
		}
		s = "[" + strings.Join(items, ",") + "]"
	default:
		var fields []string
		for range r.Intn(5) {
			fields = append(fields, randomText(r)+blank+":"+randomValue(r, room-1))
		}
		s = "{" + strings.Join(fields, ",") + "}"
	}
	return blank + s + blank
}

func randomText(r *rand.Rand) string {
	var s string
	for range r.Intn(4) {
		s += []string{"a", "b", "A", " ", "~", "!", `\n`, `\t`, `\"`, `\\`, "1", "#", "["}[r.Intn(13)]
	}
	return `"` + s + `"`
}

// spoilt is s with a few bytes other than they were.
func spoilt(r *rand.Rand, s string) string {
	const signs = "[]{}\",:\\nt-0123456789 \n\ttruefalsnx\r\x00\x7f\xff"
	for range r.Intn(3) {
		at := r.Intn(len(s) + 1)
		sign := signs[r.Intn(len(signs)):][:1]
		switch r.Intn(4) {
		case 0:
			s = s[:at] + sign + s[at:]
		case 1:
			s = s[:at]
		case 2:
			if at < len(s) {
				s = s[:at] + s[at+1:]
			}
		default:
			if at < len(s) {
				s = s[:at] + sign + s[at+1:]
			}
		}
	}
	return s
}

// P5, P6, P7: made documents, many of them spoilt, many of them near the limits.
func TestMadeTexts(t *testing.T) {
	r := rand.New(rand.NewSource(2))
	met := map[api.Errno]int{}
	for range 30000 {
		s := randomValue(r, 4)
		switch r.Intn(6) {
		case 0:
			n := 5 + r.Intn(7)
			s = nest(n, s)
		case 1:
			n := 5 + r.Intn(7)
			s = nestFields(n, s)
		case 2:
			item := []string{"1", "{}", `""`, "[1]"}[r.Intn(4)]
			s = strings.TrimSuffix(row(150+r.Intn(60), item), "]") + "," + s + "]"
		case 3:
			s = strings.Repeat(" ", max(0, 1990+r.Intn(15)-len(s))) + s
		}
		met[hold(t, spoilt(r, s))]++
	}
	for _, e := range []api.Errno{api.OK, api.ErrLarge, api.ErrSyntax, api.ErrDeep, api.ErrTwice} {
		if met[e] < 100 {
			t.Errorf("error %d was met %d times: too few to tell anything", e, met[e])
		}
	}
}

// P5, P6: a great document that is cut off, or has one byte changed, at every place.
func TestEachPlace(t *testing.T) {
	s := ` { "b" : [ 1 , -20 , "x\n\"" , { } , [ ] , null ] , "a" : { "c" : true , "a" : { "b" : false } } } `
	for i := range len(s) {
		hold(t, s[:i])
		hold(t, s[i:])
		for c := range 256 {
			hold(t, s[:i]+string([]byte{byte(c)})+s[i+1:])
			hold(t, s[:i]+string([]byte{byte(c)})+s[i:])
		}
	}
}
