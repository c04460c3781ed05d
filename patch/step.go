package patch

import (
	"seneschal/api"
	"seneschal/json"
	"seneschal/ptr"
)

// step is a step that has been read; what its kind doesn't name is empty.
type step struct {
	kind       int
	path, from []string
	value      json.Value
}

// read says what is wrong with the step itself, whatever the document is.
func read(op api.Op) (step, api.Errno) {
	if op.Kind < api.OpAdd || op.Kind > api.OpTest {
		return step{}, api.ErrArg
	}
	path, e := ptr.Steps(op.Path)
	if e != api.OK {
		return step{}, e
	}
	st := step{kind: op.Kind, path: path}
	switch op.Kind {
	case api.OpMove, api.OpCopy:
		st.from, e = ptr.Steps(op.From)
	case api.OpAdd, api.OpReplace, api.OpTest:
		st.value, e = json.Read(op.Value)
	}
	return st, e
}

// take does one step, behind which the document must be one that can be told.
func (s *sheet) take(op api.Op) api.Errno {
	st, e := read(op)
	if e != api.OK {
		return e
	}
	if e := s.do(st); e != api.OK {
		return e
	}
	_, e = json.Tell(s.doc)
	return e
}

func (s *sheet) do(st step) api.Errno {
	switch st.kind {
	case api.OpAdd:
		return s.put(st.path, st.value)
	case api.OpRemove:
		return s.cut(st.path)
	case api.OpReplace:
		return s.replace(st.path, st.value)
	case api.OpMove:
		return s.move(st.from, st.path)
	case api.OpCopy:
		return s.copy(st.from, st.path)
	}
	return s.test(st.path, st.value)
}
