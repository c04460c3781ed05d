package ptr

import (
	"slices"
	"strconv"

	"seneschal/api"
	"seneschal/json"
)

// behindAll is the step that puts a value behind those of a list.
const behindAll = "-"

// ending is what is done at the end of a way: it is given what lies there, and answers what is to lie there instead.
type ending func(json.Value) (json.Value, api.Errno)

// change answers v with what end makes of the value to which the steps lead; v itself stays as it is.
func change(v json.Value, steps []string, end ending) (json.Value, api.Errno) {
	if len(steps) == 0 {
		return end(v)
	}
	inner := lead(v, steps[0])
	if inner == nil {
		return nil, api.ErrNone
	}
	inner, e := change(inner, steps[1:], end)
	if e != api.OK {
		return nil, e
	}
	return put(v, steps[0], inner)
}

// find answers what the steps lead to, or nil.
func find(v json.Value, steps []string) json.Value {
	for _, s := range steps {
		v = lead(v, s)
	}
	return v
}

// lead answers what the step leads to, or nil (from nil, too).
func lead(v json.Value, step string) json.Value {
	switch v := v.(type) {
	case json.Object:
		if at, there := v.Find(step); there {
			return v[at].Value
		}
	case json.List:
		if at, is := place(step); is && at < len(v) {
			return v[at]
		}
	}
	return nil
}

// place answers which place the step is, if it is one.
func place(step string) (int, bool) {
	n, err := strconv.Atoi(step)
	// Atoi takes signs and noughts ahead, which no place has.
	return n, err == nil && n >= 0 && strconv.Itoa(n) == step
}

// put answers v with item where the step leads to, or would lead to from now on.
func put(v json.Value, step string, item json.Value) (json.Value, api.Errno) {
	switch v := v.(type) {
	case json.Object:
		return putField(v, step, item), api.OK
	case json.List:
		return putItem(v, step, item)
	}
	return nil, api.ErrNone
}

func putField(fields json.Object, name string, item json.Value) json.Value {
	at, there := fields.Find(name)
	behind := at
	if there {
		behind++
	}
	return slices.Concat(fields[:at], json.Object{{Name: name, Value: item}}, fields[behind:])
}

func putItem(items json.List, step string, item json.Value) (json.Value, api.Errno) {
	at, is := place(step)
	if step == behindAll {
		at, is = len(items), true
	}
	if !is || at > len(items) {
		return nil, api.ErrNone
	}
	behind := min(at+1, len(items))
	return slices.Concat(items[:at], json.List{item}, items[behind:]), api.OK
}

// cut answers v without what the step leads to.
func cut(v json.Value, step string) (json.Value, api.Errno) {
	switch v := v.(type) {
	case json.Object:
		if at, there := v.Find(step); there {
			return slices.Concat(v[:at], v[at+1:]), api.OK
		}
	case json.List:
		if at, is := place(step); is && at < len(v) {
			return slices.Concat(v[:at], v[at+1:]), api.OK
		}
	}
	return nil, api.ErrNone
}
