package json

import (
	"strconv"

	"seneschal/api"
)

// Tell answers the canonical document of v, if it is within the limits of documents.
func Tell(v Value) (string, api.Errno) {
	z := measure(v)
	if z.deep > api.MaxDeep {
		return "", api.ErrDeep
	}
	// Names and texts alone may be too long, and one of any length may come often: that is not written.
	if z.nodes > api.MaxNodes || z.bytes > api.MaxText {
		return "", api.ErrLarge
	}
	s := text(v)
	if len(s) > api.MaxText {
		return "", api.ErrLarge
	}
	return s, api.OK
}

func text(v Value) string {
	return string(write(nil, v))
}

// write lays the canonical document of v behind out.
func write(out []byte, v Value) []byte {
	switch v := v.(type) {
	case Null:
		return append(out, "null"...)
	case Bool:
		return strconv.AppendBool(out, bool(v))
	case Number:
		return strconv.AppendInt(out, int64(v), 10)
	case Text:
		return writeQuoted(out, string(v))
	case List:
		return writeList(out, v)
	case Object:
		return writeObject(out, v)
	}
	return out
}

func writeList(out []byte, items List) []byte {
	out = append(out, '[')
	for i, item := range items {
		if i > 0 {
			out = append(out, ',')
		}
		out = write(out, item)
	}
	return append(out, ']')
}

func writeObject(out []byte, fields Object) []byte {
	out = append(out, '{')
	for i, f := range fields {
		if i > 0 {
			out = append(out, ',')
		}
		out = writeQuoted(out, f.Name)
		out = append(out, ':')
		out = write(out, f.Value)
	}
	return append(out, '}')
}

func writeQuoted(out []byte, s string) []byte {
	out = append(out, '"')
	for i := 0; i < len(s); i++ {
		switch c := s[i]; c {
		case '\n':
			out = append(out, '\\', 'n')
		case '\t':
			out = append(out, '\\', 't')
		case '"', '\\':
			out = append(out, '\\', c)
		default:
			out = append(out, c)
		}
	}
	return append(out, '"')
}
