package query

import (
	"strings"

	"seneschal/api"
)

// tellParts writes a text of its own: that of one part alone may be a key that was handed in.
func tellParts(l []api.Req) string {
	var out strings.Builder
	for i, r := range l {
		if i > 0 {
			out.WriteByte(',')
		}
		out.WriteString(tellPart(r))
	}
	return out.String()
}

func tellPart(r api.Req) string {
	switch r.Kind {
	case api.IsIn:
		return r.Key + tellVals(r.Vals, "=", "in")
	case api.IsNotIn:
		return r.Key + tellVals(r.Vals, "!=", "notin")
	case api.IsNot:
		return "!" + r.Key
	}
	return r.Key
}

// tellVals tells one of Vals behind the sign, more of them in brackets behind the word.
func tellVals(vals []string, sign, word string) string {
	if len(vals) == 1 {
		return sign + vals[0]
	}
	return " " + word + " (" + strings.Join(vals, ",") + ")"
}

// reader reads a selector's text piece by piece; behind each piece it leaves no blanks, so that they may stand wherever pieces meet.
type reader struct {
	rest string
}

// readParts reads a whole text; it tells whether that is in its form, not whether Check is content with its parts.
func readParts(s string) ([]api.Req, bool) {
	in := &reader{}
	in.leave(s)
	if in.rest == "" {
		return nil, true
	}
	var l []api.Req
	for {
		r, ok := in.part()
		if !ok {
			return nil, false
		}
		l = append(l, r)
		if in.rest == "" {
			return l, true
		}
		if !in.take(",") {
			return nil, false
		}
	}
}

// part reads one part. A `!` ahead of a `=` is one sign with it, also where the key ahead of it is empty.
func (in *reader) part() (api.Req, bool) {
	key := in.run()
	switch {
	case in.take("=="), in.take("="):
		return api.Req{Key: key, Kind: api.IsIn, Vals: []string{in.run()}}, true
	case in.take("!="):
		return api.Req{Key: key, Kind: api.IsNotIn, Vals: []string{in.run()}}, true
	case key == "" && in.take("!"):
		return api.Req{Key: in.run(), Kind: api.IsNot}, true
	}
	// No look is needed for the blanks around a word: without them it would be one run with what stands beside it.
	switch in.run() {
	case "":
		return api.Req{Key: key, Kind: api.IsThere}, true
	case "in":
		vals, ok := in.vals()
		return api.Req{Key: key, Kind: api.IsIn, Vals: vals}, ok
	case "notin":
		vals, ok := in.vals()
		return api.Req{Key: key, Kind: api.IsNotIn, Vals: vals}, ok
	}
	return api.Req{}, false
}

// vals reads Vals in brackets: at least one, which may be empty.
func (in *reader) vals() ([]string, bool) {
	if !in.take("(") {
		return nil, false
	}
	vals := []string{in.run()}
	for in.take(",") {
		vals = append(vals, in.run())
	}
	return vals, in.take(")")
}

// take goes behind the sign, if it is what comes next.
func (in *reader) take(sign string) bool {
	rest, is := strings.CutPrefix(in.rest, sign)
	if is {
		in.leave(rest)
	}
	return is
}

// run goes behind the longest run of bytes that a key, a Val or a word may have, and answers a copy of it, since parts that are told share nothing with the text.
func (in *reader) run() string {
	n := 0
	for n < len(in.rest) && isOfRun(in.rest[n]) {
		n++
	}
	s := strings.Clone(in.rest[:n])
	in.leave(in.rest[n:])
	return s
}

// leave keeps what is still to be read, without the blanks ahead of it.
func (in *reader) leave(rest string) {
	in.rest = strings.TrimLeft(rest, " ")
}

func isOfRun(c byte) bool {
	return 'a' <= c && c <= 'z' || 'A' <= c && c <= 'Z' || '0' <= c && c <= '9' || strings.IndexByte("-_./", c) >= 0
}
