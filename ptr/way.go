package ptr

import (
	"slices"
	"strconv"

	"seneschal/api"
	"seneschal/json"
)

// behindAll is the step that puts a value behind those of a list.
const behindAll = "-"

// Ending is what is done at the end of a way: it is given what lies there, and answers what is to lie there instead.
type Ending func(json.Value) (json.Value, api.Errno)

// Change answers v with what end makes of the value to which the steps lead; v itself stays as it is.
func Change(v json.Value, steps []string, end Ending) (json.Value, api.Errno) {
	if len(steps) == 0 {
		return end(v)
	}
	inner := lead(v, steps[0])
	if inner == nil {
		return nil, api.ErrNone
	}
	inner, e := Change(inner, steps[1:], end)
	if e != api.OK {
		return nil, e
	}
	return put(v, steps[0], inner)
}

// Find answers what the steps lead to, or nil.
func Find(v json.Value, steps []string) json.Value {
	for _, s := range steps {
		v = lead(v, s)
	}
	return v
}

// With answers v with item at the end of the steps, as Put puts it.
func With(v json.Value, steps []string, item json.Value) (json.Value, api.Errno) {
	ahead, last, some := Apart(steps)
	if !some {
		return item, api.OK
	}
	return Change(v, ahead, func(holder json.Value) (json.Value, api.Errno) {
		return put(holder, last, item)
	})
}

// Without answers v without what the steps lead to, as Cut cuts it.
func Without(v json.Value, steps []string) (json.Value, api.Errno) {
	ahead, last, some := Apart(steps)
	if !some {
		return nil, api.ErrArg
	}
	return Change(v, ahead, func(holder json.Value) (json.Value, api.Errno) {
		return cut(holder, last)
	})
}

// Apart answers the steps ahead of the last one, and that one, if there is any.
func Apart(steps []string) ([]string, string, bool) {
	if len(steps) == 0 {
		return nil, "", false
	}
	last := len(steps) - 1
	return steps[:last], steps[last], true
}

// Room answers at which place the step puts a value, if it does: at one of the list's, or behind them all.
func Room(items json.List, step string) (int, bool) {
	if step == behindAll {
		return len(items), true
	}
	at, is := place(step)
	return at, is && at <= len(items)
}

// lead answers what the step leads to, or nil (from nil, too).
func lead(v json.Value, step string) json.Value {
	switch v := v.(type) {
	case json.Object:
		return v.Under(step)
	case json.List:
		if at, is := place(step); is && at < len(v) {
			return v[at]
		}
	}
	return nil
}

// place answers which place the step is, if it is one.
func place(step string) (int, bool) {
	n, err := strconv.Atoi(step)
	// Atoi takes signs and noughts ahead, which no place has.
	return n, err == nil && n >= 0 && strconv.Itoa(n) == step
}

// put answers v with item where the step leads to, or would lead to from now on.
func put(v json.Value, step string, item json.Value) (json.Value, api.Errno) {
	switch v := v.(type) {
	case json.Object:
		return putField(v, step, item), api.OK
	case json.List:
		return putItem(v, step, item)
	}
	return nil, api.ErrNone
}

func putField(fields json.Object, name string, item json.Value) json.Value {
	at, there := fields.Find(name)
	behind := at
	if there {
		behind++
	}
	return slices.Concat(fields[:at], json.Object{{Name: name, Value: item}}, fields[behind:])
}

func putItem(items json.List, step string, item json.Value) (json.Value, api.Errno) {
	at, is := Room(items, step)
	if !is {
		return nil, api.ErrNone
	}
	behind := min(at+1, len(items))
	return slices.Concat(items[:at], json.List{item}, items[behind:]), api.OK
}

// cut answers v without what the step leads to.
func cut(v json.Value, step string) (json.Value, api.Errno) {
	switch v := v.(type) {
	case json.Object:
		if at, there := v.Find(step); there {
			return slices.Concat(v[:at], v[at+1:]), api.OK
		}
	case json.List:
		if at, is := place(step); is && at < len(v) {
			return slices.Concat(v[:at], v[at+1:]), api.OK
		}
	}
	return nil, api.ErrNone
}
