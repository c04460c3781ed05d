package store

import (
	"slices"
	"sort"
	"strings"

	"seneschal/api"
)

// history is what happened to the objects of one key, rising by the revisions.
type history struct{ queue[*api.Event] }

// moment is a revision: what happened by it, and the histories of all that is there behind it.
type moment struct {
	event *api.Event
	there []*history
}

// ahead answers how many of h happened ahead of the revision rev.
func (h *history) ahead(rev int) int {
	l := h.all()
	return sort.Search(len(l), func(i int) bool { return l[i].Rev >= rev })
}

// behind answers the object as it was behind the revision rev, if it was there; without a history it never was.
func (h *history) behind(rev int) (api.Object, bool) {
	if h == nil {
		return api.Object{}, false
	}
	n := h.ahead(rev + 1)
	if n == 0 {
		return api.Object{}, false
	}
	last := h.all()[n-1]
	return last.Object, last.Kind != api.EvRemoved
}

// past answers which revision rev stands for, or why that can't be asked for.
func (s *Store) past(rev int) (int, api.Errno) {
	switch {
	case rev < 0 || rev > s.Rev():
		return 0, api.ErrArg
	case rev == 0:
		return s.Rev(), api.OK
	case rev < s.compacted:
		return 0, api.ErrGone
	}
	return rev, api.OK
}

func (s *Store) now(k api.Key) (api.Object, bool) {
	return s.versions[k].behind(s.Rev())
}

// there answers the histories of what is there behind the revision rev, which is not below what was compacted.
func (s *Store) there(rev int) []*history {
	if rev == s.compacted {
		return s.begin
	}
	return s.moments.all()[rev-s.compacted-1].there
}

// change makes a revision by which o comes, is another or goes, and answers o as it is then.
func (s *Store) change(kind int, o api.Object) api.Object {
	o = own(o)
	o.Rev = s.Rev() + 1
	e := &api.Event{Kind: kind, Rev: o.Rev, Object: o}
	h := s.historyOf(o.Key)
	h.add(e)
	s.moments.add(moment{e, next(s.there(s.Rev()), kind, h)})
	return own(o)
}

// historyOf answers the history of k, which is empty if k has none yet. k is kept.
func (s *Store) historyOf(k api.Key) *history {
	if s.versions == nil {
		s.versions = map[api.Key]*history{}
	}
	if s.versions[k] == nil {
		s.versions[k] = &history{}
	}
	return s.versions[k]
}

// next is a list of its own where it is another than there: that one is still asked for, as the past.
func next(there []*history, kind int, h *history) []*history {
	switch kind {
	case api.EvAdded:
		return slices.Concat(there, []*history{h})
	case api.EvRemoved:
		at := slices.Index(there, h)
		return slices.Concat(there[:at], there[at+1:])
	}
	return there
}

// forget makes rev what was compacted.
func (s *Store) forget(rev int) {
	begin := s.there(rev)
	n := rev - s.compacted
	for _, m := range s.moments.all()[:n] {
		s.forgetAhead(m.event)
	}
	s.moments.drop(n)
	s.compacted, s.begin = rev, begin
}

// forgetAhead forgets what the object was ahead of e, and, where it went by e, that it was there.
func (s *Store) forgetAhead(e *api.Event) {
	k := e.Object.Key
	h := s.versions[k]
	n := h.ahead(e.Rev)
	if e.Kind == api.EvRemoved {
		n++
	}
	h.drop(n)
	if len(h.all()) == 0 {
		delete(s.versions, k)
	}
}

// own is o in memory that nobody else has.
func own(o api.Object) api.Object {
	labels := make([]api.Label, len(o.Labels))
	for i, l := range o.Labels {
		labels[i] = api.Label{Key: strings.Clone(l.Key), Val: strings.Clone(l.Val)}
	}
	return api.Object{
		Key:    api.Key{Kind: strings.Clone(o.Kind), Space: strings.Clone(o.Space), Name: strings.Clone(o.Name)},
		Labels: labels,
		Owners: ownTexts(o.Owners),
		Holds:  ownTexts(o.Holds),
		Ending: o.Ending,
		Uid:    strings.Clone(o.Uid),
		Rev:    o.Rev,
		Doc:    strings.Clone(o.Doc),
	}
}

func ownTexts(l []string) []string {
	told := make([]string, len(l))
	for i, s := range l {
		told[i] = strings.Clone(s)
	}
	return told
}
