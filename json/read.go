package json

import (
	"slices"
	"strconv"
	"strings"

	"seneschal/api"
)

// mostDigits is how many digits a number may have.
const mostDigits = 18

// Read answers the value that the document s has.
func Read(s string) (Value, api.Errno) {
	if len(s) > api.MaxText {
		return nil, api.ErrLarge
	}
	r := reader{text: s}
	v, e := r.value(0)
	if e != api.OK {
		return nil, e
	}
	r.skipBlanks()
	if r.at < len(s) {
		return nil, api.ErrSyntax
	}
	return v, api.OK
}

// reader goes through a text once, from its first byte on.
type reader struct {
	text  string
	at    int // the byte that comes next
	nodes int // values that have begun
}

// next answers the byte that comes next; at the end 0, which may stand nowhere in a document, so that no place takes it for something else.
func (r *reader) next() byte {
	if r.at < len(r.text) {
		return r.text[r.at]
	}
	return 0
}

// take goes past c, if it comes next.
func (r *reader) take(c byte) bool {
	if r.next() != c {
		return false
	}
	r.at++
	return true
}

// takeSign is take, with blanks ahead of c.
func (r *reader) takeSign(c byte) bool {
	r.skipBlanks()
	return r.take(c)
}

func (r *reader) skipBlanks() {
	for r.take(' ') || r.take('\n') || r.take('\t') {
	}
}

// value reads a value that lies within deep lists and objects.
func (r *reader) value(deep int) (Value, api.Errno) {
	r.skipBlanks()
	if e := r.begin(deep); e != api.OK {
		return nil, e
	}
	switch r.next() {
	case 'n':
		return Null{}, r.word("null")
	case 't':
		return Bool(true), r.word("true")
	case 'f':
		return Bool(false), r.word("false")
	case '"':
		s, e := r.quoted()
		return Text(s), e
	case '[':
		return r.list(deep + 1)
	case '{':
		return r.object(deep + 1)
	}
	return r.number()
}

// begin says what is wrong where a value begins. Its first byte is all that has been read by then: a word, number or text that goes wrong further on does so behind these limits.
func (r *reader) begin(deep int) api.Errno {
	c := r.next()
	if strings.IndexByte(`ntf"[{-0123456789`, c) < 0 {
		return api.ErrSyntax
	}
	r.nodes++
	if r.nodes > api.MaxNodes {
		return api.ErrLarge
	}
	if deep >= api.MaxDeep && (c == '[' || c == '{') {
		return api.ErrDeep
	}
	return api.OK
}

func (r *reader) word(w string) api.Errno {
	if !strings.HasPrefix(r.text[r.at:], w) {
		return api.ErrSyntax
	}
	r.at += len(w)
	return api.OK
}

func (r *reader) number() (Value, api.Errno) {
	begin := r.at
	below := r.take('-')
	digits := r.digits()
	switch {
	case digits == "":
		return nil, api.ErrSyntax
	case digits[0] == '0' && (below || len(digits) > 1):
		return nil, api.ErrSyntax
	case len(digits) > mostDigits:
		return nil, api.ErrLarge
	}
	// It can't fail: the digits have been looked at, and 18 of them fit.
	n, _ := strconv.ParseInt(r.text[begin:r.at], 10, 64)
	return Number(n), api.OK
}

func (r *reader) digits() string {
	begin := r.at
	for '0' <= r.next() && r.next() <= '9' {
		r.at++
	}
	return r.text[begin:r.at]
}

// quoted reads a text, from its first `"` to its last one, and answers what it means.
func (r *reader) quoted() (string, api.Errno) {
	if !r.take('"') {
		return "", api.ErrSyntax
	}
	var meant []byte
	for !r.take('"') {
		c := r.sign()
		if c == 0 {
			return "", api.ErrSyntax
		}
		meant = append(meant, c)
	}
	return string(meant), api.OK
}

// sign reads what stands for one byte of a text, and answers that byte; 0, which no text has, if nothing that may stand there does.
func (r *reader) sign() byte {
	var c byte
	switch {
	case r.take('\\'):
		c = meaning(r.next())
	case isPlain(r.next()):
		c = r.next()
	}
	if c != 0 {
		r.at++
	}
	return c
}

// meaning answers what c stands for behind a `\`, or 0.
func meaning(c byte) byte {
	switch c {
	case '"', '\\':
		return c
	case 'n':
		return '\n'
	case 't':
		return '\t'
	}
	return 0
}

func isPlain(c byte) bool {
	return 32 <= c && c <= 126
}

func (r *reader) list(deep int) (Value, api.Errno) {
	items := List{}
	e := r.row(']', func() api.Errno {
		v, e := r.value(deep)
		items = append(items, v)
		return e
	})
	return items, e
}

func (r *reader) object(deep int) (Value, api.Errno) {
	fields := Object{}
	e := r.row('}', func() api.Errno {
		place, name, e := r.name(fields)
		if e != api.OK {
			return e
		}
		v, e := r.value(deep)
		fields = slices.Insert(fields, place, Field{name, v})
		return e
	})
	return fields, e
}

// name reads a field's name and the `:` behind it, and answers its place among the fields that have been read.
func (r *reader) name(fields Object) (int, string, api.Errno) {
	r.skipBlanks()
	name, e := r.quoted()
	if e != api.OK {
		return 0, "", e
	}
	place, there := fields.Find(name)
	if there {
		return 0, "", api.ErrTwice
	}
	if !r.takeSign(':') {
		return 0, "", api.ErrSyntax
	}
	return place, name, api.OK
}

// row reads from the sign that opens it to the one that ends it; one is called where a part of the row must stand, with `,` between.
func (r *reader) row(end byte, one func() api.Errno) api.Errno {
	r.at++ // the sign that opens it has been seen by who calls
	if r.takeSign(end) {
		return api.OK
	}
	for {
		if e := one(); e != api.OK {
			return e
		}
		if r.takeSign(end) {
			return api.OK
		}
		if !r.takeSign(',') {
			return api.ErrSyntax
		}
	}
}
