package patch

import (
	"slices"
	"strconv"

	"seneschal/api"
	"seneschal/json"
	"seneschal/ptr"
)

// deed is what was done at one place of a document: what was there, and what is there from then on (nil: nothing).
type deed struct {
	at      []string
	was, is json.Value
}

// back answers the step that undoes the deed.
func (d deed) back() api.Op {
	// Neither can fail: no way has more steps than a pointer may have, and what was there was part of a document that can be told.
	path, _ := ptr.Join(d.at)
	if d.was == nil {
		return api.Op{Kind: api.OpRemove, Path: path}
	}
	value, _ := json.Tell(d.was)
	if d.is == nil {
		return api.Op{Kind: api.OpAdd, Path: path, Value: value}
	}
	return api.Op{Kind: api.OpReplace, Path: path, Value: value}
}

// sheet is a document on which steps are done; each deed is seen by see.
type sheet struct {
	doc json.Value
	see func(deed)
}

// did takes what was made, if nothing went wrong with it, as what is there from now on.
func (s *sheet) did(d deed, made json.Value, e api.Errno) api.Errno {
	if e != api.OK {
		return e
	}
	s.doc = made
	s.see(d)
	return api.OK
}

func (s *sheet) put(path []string, item json.Value) api.Errno {
	ahead, last, some := ptr.Apart(path)
	if !some {
		return s.replace(path, item)
	}
	// What lies in a list stays there and moves up; elsewhere it gives way.
	if items, is := ptr.Find(s.doc, ahead).(json.List); is {
		return s.insert(ahead, items, last, item)
	}
	made, e := ptr.With(s.doc, path, item)
	return s.did(deed{path, ptr.Find(s.doc, path), item}, made, e)
}

// insert lays item into the list to which the steps ahead lead.
func (s *sheet) insert(ahead []string, items json.List, last string, item json.Value) api.Errno {
	place, is := ptr.Room(items, last)
	if !is {
		return api.ErrNone
	}
	made, e := ptr.Change(s.doc, ahead, func(json.Value) (json.Value, api.Errno) {
		return slices.Concat(items[:place], json.List{item}, items[place:]), api.OK
	})
	at := slices.Concat(ahead, []string{strconv.Itoa(place)})
	return s.did(deed{at, nil, item}, made, e)
}

func (s *sheet) cut(path []string) api.Errno {
	made, e := ptr.Without(s.doc, path)
	return s.did(deed{path, ptr.Find(s.doc, path), nil}, made, e)
}

func (s *sheet) replace(path []string, item json.Value) api.Errno {
	made, e := ptr.Change(s.doc, path, func(json.Value) (json.Value, api.Errno) {
		return item, api.OK
	})
	return s.did(deed{path, ptr.Find(s.doc, path), item}, made, e)
}

func (s *sheet) move(from, path []string) api.Errno {
	if len(from) < len(path) && slices.Equal(from, path[:len(from)]) {
		return api.ErrArg
	}
	item := ptr.Find(s.doc, from)
	if item == nil {
		return api.ErrNone
	}
	if slices.Equal(from, path) {
		return api.OK
	}
	if e := s.cut(from); e != api.OK {
		return e
	}
	return s.put(path, item)
}

func (s *sheet) copy(from, path []string) api.Errno {
	item := ptr.Find(s.doc, from)
	if item == nil {
		return api.ErrNone
	}
	return s.put(path, item)
}

func (s *sheet) test(path []string, item json.Value) api.Errno {
	there := ptr.Find(s.doc, path)
	if there == nil {
		return api.ErrNone
	}
	if !json.Equal(there, item) {
		return api.ErrTest
	}
	return api.OK
}
