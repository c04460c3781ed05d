package grants

import (
	"slices"
	"strconv"

	"seneschal/api"
)

// The sides of a rule, in the order in which what it allows is gone through.
const (
	verbs = iota
	kinds
	names
	sides
)

// sign answers what stands for whatever text on a side.
// An empty name is never allowed by itself, so among names the empty text is free for that.
func sign(side int) string {
	if side == names {
		return ""
	}
	return all
}

// wordsOf answers what r has on a side, each word once.
func wordsOf(r api.Rule, side int) []string {
	switch side {
	case verbs:
		return once(r.Verbs)
	case kinds:
		return once(r.Kinds)
	}
	if len(r.Names) == 0 {
		return []string{sign(names)}
	}
	return slices.DeleteFunc(once(r.Names), func(s string) bool { return s == "" })
}

func once(l []string) []string {
	told := make([]string, 0, len(l))
	seen := make(map[string]struct{}, len(l))
	for _, s := range l {
		if _, is := seen[s]; !is {
			seen[s] = struct{}{}
			told = append(told, s)
		}
	}
	return told
}

// gap answers the first words of r, one of each side, that no rule of held has together.
func gap(held []api.Rule, r api.Rule) (words [sides]string, found bool) {
	var l [sides][]string
	for side := range sides {
		l[side] = worth(held, r, side)
	}
	return gapFrom(held, l, verbs)
}

// worth answers those of r's words on a side that are worth a look.
// Words that the same rules have are allowed beside the same others, so the first of them is enough.
func worth(held []api.Rule, r api.Rule, side int) []string {
	_, places := parted(held, side)
	seen := make(map[string]struct{})
	return slices.DeleteFunc(wordsOf(r, side), func(word string) bool {
		key := keyOf(places[word])
		_, is := seen[key]
		seen[key] = struct{}{}
		return is
	})
}

// keyOf answers a text that no other places have.
func keyOf(places []int) string {
	var b []byte
	for _, i := range places {
		b = append(strconv.AppendInt(b, int64(i), 10), ' ')
	}
	return string(b)
}

// gapFrom answers the first words of l, from this side on, that no rule of held has together.
func gapFrom(held []api.Rule, l [sides][]string, side int) (words [sides]string, found bool) {
	if side == sides {
		return words, len(held) == 0
	}
	whatever, places := parted(held, side)
	for _, word := range l[side] {
		having := slices.Clone(whatever)
		for _, i := range places[word] {
			having = append(having, held[i])
		}
		if words, found = gapFrom(having, l, side+1); found {
			words[side] = word
			return words, true
		}
	}
	return words, false
}

// parted answers the rules of held that have whatever text on a side, and for each word where the others lie that have it.
func parted(held []api.Rule, side int) (whatever []api.Rule, places map[string][]int) {
	places = make(map[string][]int)
	for i, r := range held {
		l := wordsOf(r, side)
		if slices.Contains(l, sign(side)) {
			whatever = append(whatever, r)
			continue
		}
		for _, word := range l {
			places[word] = append(places[word], i)
		}
	}
	return whatever, places
}

// free answers the first of x0, x1 and so on that no rule of held has on a side.
func free(held []api.Rule, side int) string {
	used := make(map[string]struct{})
	for _, r := range held {
		for _, word := range wordsOf(r, side) {
			used[word] = struct{}{}
		}
	}
	for i := 0; ; i++ {
		word := "x" + strconv.Itoa(i)
		if _, is := used[word]; !is {
			return word
		}
	}
}
