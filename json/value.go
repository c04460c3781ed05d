package json

import (
	"slices"
	"strings"

	"seneschal/api"
)

// Value is what a document has: a Null, a Bool, a Number, a Text, a List or an Object.
// A value is never changed once it is made, so that several may share what is within them.
type Value interface{ isValue() }

// Null is the value null.
type Null struct{}

// Bool is true or false.
type Bool bool

// Number is a number; its 18 digits fit.
type Number int64

// Text is a text as it is meant, without quotes and without `\` ahead of a sign.
type Text string

// List is values in their order.
type List []Value

// Object is fields, rising by their names, no two of one name.
type Object []Field

// Field is a field of an object.
type Field struct {
	Name  string
	Value Value
}

func (Null) isValue()   {}
func (Bool) isValue()   {}
func (Number) isValue() {}
func (Text) isValue()   {}
func (List) isValue()   {}
func (Object) isValue() {}

// Find answers where the field of that name is, or would have to be, and whether it is there.
func (o Object) Find(name string) (int, bool) {
	return slices.BinarySearchFunc(o, name, func(f Field, name string) int {
		return strings.Compare(f.Name, name)
	})
}

// Under answers what the field of that name has, or nil.
func (o Object) Under(name string) Value {
	if at, there := o.Find(name); there {
		return o[at].Value
	}
	return nil
}

// FieldsOf answers the fields of v: none, if it is no object.
func FieldsOf(v Value) Object {
	fields, _ := v.(Object)
	return fields
}

// KindOf answers of which kind v is.
func KindOf(v Value) int {
	switch v.(type) {
	case Null:
		return api.KNull
	case Bool:
		return api.KBool
	case Number:
		return api.KNumber
	case Text:
		return api.KText
	case List:
		return api.KList
	case Object:
		return api.KObject
	}
	return 0
}

// Equal tells whether v and w are one value.
func Equal(v, w Value) bool {
	return text(v) == text(w)
}

// size is how many values there are, how many lists and objects in one another, and how many bytes texts and names have.
type size struct{ nodes, deep, bytes int }

func (z *size) hold(inner size) {
	z.nodes += inner.nodes
	z.deep = max(z.deep, inner.deep+1)
	z.bytes += inner.bytes
}

func measure(v Value) size {
	switch v := v.(type) {
	case Text:
		return size{nodes: 1, bytes: len(v)}
	case List:
		z := size{nodes: 1, deep: 1}
		for _, item := range v {
			z.hold(measure(item))
		}
		return z
	case Object:
		z := size{nodes: 1, deep: 1}
		for _, f := range v {
			z.bytes += len(f.Name)
			z.hold(measure(f.Value))
		}
		return z
	}
	return size{nodes: 1}
}
