package store_test

import (
	"fmt"
	"maps"
	"math/rand"
	"slices"
	"strings"
	"testing"

	"seneschal/api"
	"seneschal/store"
)

// model is a store by the words of the chapter: it has all that was there behind each revision.
type model struct {
	states    []map[api.Key]api.Object
	events    []api.Event
	compacted int
}

func (m *model) rev() int { return len(m.states) - 1 }

func (m *model) now() map[api.Key]api.Object { return m.states[m.rev()] }

func (m *model) change(kind int, o api.Object) api.Object {
	o.Rev = m.rev() + 1
	next := maps.Clone(m.now())
	next[o.Key] = o
	if kind == api.EvRemoved {
		delete(next, o.Key)
	}
	m.states = append(m.states, next)
	m.events = append(m.events, api.Event{Kind: kind, Rev: o.Rev, Object: o})
	return o
}

func (m *model) create(o api.Object, doc string) (api.Object, api.Errno) {
	if _, is := m.now()[o.Key]; is {
		return api.Object{}, api.ErrTwice
	}
	if len(m.now()) == 60 {
		return api.Object{}, api.ErrFull
	}
	o.Doc, o.Ending, o.Uid = doc, false, fmt.Sprintf("u%d", m.rev()+1)
	return m.change(api.EvAdded, o), api.OK
}

func (m *model) update(o api.Object, doc string) (api.Object, api.Errno) {
	was, is := m.now()[o.Key]
	switch {
	case !is:
		return api.Object{}, api.ErrNone
	case was.Rev != o.Rev:
		return api.Object{}, api.ErrRev
	case was.Ending && !o.Ending:
		return api.Object{}, api.ErrArg
	}
	o.Doc, o.Uid = doc, was.Uid
	return m.change(api.EvChanged, o), api.OK
}

func (m *model) delete(k api.Key, rev int) (api.Object, api.Errno) {
	was, is := m.now()[k]
	switch {
	case !is:
		return api.Object{}, api.ErrNone
	case rev != 0 && rev != was.Rev:
		return api.Object{}, api.ErrRev
	}
	return m.change(api.EvRemoved, was), api.OK
}

// at answers what was there behind rev.
func (m *model) at(rev int) (map[api.Key]api.Object, api.Errno) {
	switch {
	case rev < 0 || rev > m.rev():
		return nil, api.ErrArg
	case rev == 0:
		return m.now(), api.OK
	case rev < m.compacted:
		return nil, api.ErrGone
	}
	return m.states[rev], api.OK
}

func (m *model) get(k api.Key, rev int) (api.Object, api.Errno) {
	state, e := m.at(rev)
	if e != api.OK {
		return api.Object{}, e
	}
	o, is := state[k]
	if !is {
		return api.Object{}, api.ErrNone
	}
	return o, api.OK
}

func (m *model) list(kind, space string, rev int) ([]api.Object, api.Errno) {
	state, e := m.at(rev)
	var l []api.Object
	for k, o := range state {
		if k.Kind == kind && (space == "" || k.Space == space) {
			l = append(l, o)
		}
	}
	slices.SortFunc(l, func(o, p api.Object) int {
		// No byte of a name is below 1.
		return strings.Compare(o.Space+"\x00"+o.Name, p.Space+"\x00"+p.Name)
	})
	return l, e
}

func (m *model) since(rev int) ([]api.Event, api.Errno) {
	switch {
	case rev < 0 || rev > m.rev():
		return nil, api.ErrArg
	case rev < m.compacted:
		return nil, api.ErrGone
	}
	return m.events[rev:], api.OK
}

func (m *model) compact(rev int) api.Errno {
	if rev > m.rev() || rev < m.compacted {
		return api.ErrArg
	}
	m.compacted = rev
	return api.OK
}

// dice make what is asked.
type dice struct {
	*rand.Rand
	names int // how many names there are
}

func (d dice) of(l ...string) string { return l[d.Intn(len(l))] }

func (d dice) some(n int, l ...string) []string {
	d.Shuffle(len(l), func(i, j int) { l[i], l[j] = l[j], l[i] })
	return l[:d.Intn(n+1)]
}

func (d dice) key() api.Key {
	return api.Key{Kind: d.of("pods", "pods", "jobs"), Space: d.of("", "a", "a-b", "b"), Name: fmt.Sprintf("n%d", d.Intn(d.names))}
}

// object answers one, and what its Doc is as a canonical one.
func (d dice) object(m *model) (api.Object, string) {
	o := api.Object{Key: d.key(), Uid: d.of("", "u1", "x"), Ending: d.Intn(3) == 0}
	for _, k := range []string{"a", "b", "c"} {
		if d.Intn(2) == 0 {
			o.Labels = append(o.Labels, api.Label{Key: k, Val: d.of("", "1", "2")})
		}
	}
	o.Owners, o.Holds = d.some(4, "u1", "u2", "u2", "u3", "u4"), d.some(4, "h", "i", "j", "k")
	n, f := d.Intn(100), d.Intn(100)
	o.Doc = fmt.Sprintf(`{ "b" : %d ,"a": [ %d ]}`, n, f)
	o.Rev = d.rev(m, o.Key)
	return o, fmt.Sprintf(`{"a":[%d],"b":%d}`, f, n)
}

// rev answers most often the Rev of what is there.
func (d dice) rev(m *model, k api.Key) int {
	if d.Intn(5) == 0 {
		return d.Intn(m.rev()+4) - 2
	}
	return m.now()[k].Rev
}

// act does the same to s and to m.
func act(t *testing.T, d dice, s *store.Store, m *model) {
	t.Helper()
	var o, p api.Object
	var e, f api.Errno
	x, doc := d.object(m)
	what := "Compact"
	switch d.Intn(10) {
	case 0, 1, 2:
		what = "Create"
		o, e = s.Create(x)
		p, f = m.create(x, doc)
	case 3, 4, 5, 6:
		what = "Update"
		o, e = s.Update(x)
		p, f = m.update(x, doc)
	case 7, 8:
		what = "Delete"
		rev := d.rev(m, x.Key) * d.Intn(2)
		o, e = s.Delete(x.Key, rev)
		p, f = m.delete(x.Key, rev)
	case 9:
		if rev := m.compacted + d.Intn(m.rev()-m.compacted+1); d.Intn(20) == 0 {
			e, f = s.Compact(rev), m.compact(rev)
		}
		if rev := d.Intn(2*m.rev()+4) - m.rev(); rev > m.rev() || rev < m.compacted {
			e, f = s.Compact(rev), m.compact(rev)
		}
	}
	if e != f || told(o) != told(p) {
		t.Fatalf("%s of %+v: %+v, %d, want %+v, %d", what, x, o, e, p, f)
	}
}

// asks asks s and m the same.
func asks(t *testing.T, d dice, s *store.Store, m *model) {
	t.Helper()
	if s.Rev() != m.rev() {
		t.Fatalf("Rev %d, want %d", s.Rev(), m.rev())
	}
	rev, k := d.Intn(m.rev()+4)-2, d.key()
	o, e := s.Get(k, rev)
	p, f := m.get(k, rev)
	if e != f || told(o) != told(p) {
		t.Fatalf("Get(%v, %d): %+v, %d, want %+v, %d", k, rev, o, e, p, f)
	}
	l, e := s.List(k.Kind, k.Space, rev)
	n, f := m.list(k.Kind, k.Space, rev)
	if e != f || told(l) != told(n) {
		t.Fatalf("List(%v, %d): %+v, %d, want %+v, %d", k, rev, l, e, n, f)
	}
	rev = max(rev, m.rev()-d.Intn(20)*d.Intn(2))
	v, e := s.Since(rev)
	w, f := m.since(rev)
	if e != f || told(v) != told(w) {
		t.Fatalf("Since(%d): %+v, %d, want %+v, %d", rev, v, e, w, f)
	}
}

// P36, P37: whatever is done, all is as the chapter's words have it, now and behind each revision.
func TestOracle(t *testing.T) {
	for seed := range 36 {
		d := dice{rand.New(rand.NewSource(int64(seed))), []int{1, 2, 20}[seed%3]}
		s, m := store.New(), &model{states: []map[api.Key]api.Object{{}}}
		for range 300 {
			act(t, d, s, m)
			asks(t, d, s, m)
		}
		for rev := -2; rev < m.rev()+3; rev++ {
			for _, kind := range texts("pods", "jobs") {
				l, e := s.List(kind, "", rev)
				if n, f := m.list(kind, "", rev); e != f || told(l) != told(n) {
					t.Fatalf("List(%s, %d): %+v, %d, want %+v, %d", kind, rev, l, e, n, f)
				}
			}
			v, e := s.Since(rev)
			if w, f := m.since(rev); e != f || told(v) != told(w) {
				t.Fatalf("Since(%d): %+v, %d, want %+v, %d", rev, v, e, w, f)
			}
		}
	}
}

// P35 to P37: whatever is done with a full store.
func TestOracleFull(t *testing.T) {
	d := dice{rand.New(rand.NewSource(7)), 11}
	s, m := store.New(), &model{states: []map[api.Key]api.Object{{}}}
	fulls := 0
	for range 3000 {
		x, doc := d.object(m)
		if d.Intn(4) > 0 {
			o, e := s.Create(x)
			p, f := m.create(x, doc)
			if e != f || told(o) != told(p) {
				t.Fatalf("Create of %+v: %+v, %d, want %+v, %d", x, o, e, p, f)
			}
			if e == api.ErrFull {
				fulls++
			}
		} else if d.Intn(3) == 0 {
			act(t, d, s, m)
		}
		asks(t, d, s, m)
	}
	if fulls < 100 {
		t.Errorf("it was full %d times", fulls)
	}
}

// P1, P36, P37: a text is a script; whatever it is, nothing panics, and all is as the chapter's words have it.
func FuzzStore(f *testing.F) {
	f.Add("cucudg")
	f.Add("c\x00u\x01d\x02k\x03g\x04l\x05")
	f.Fuzz(func(t *testing.T, script string) {
		s, m := store.New(), &model{states: []map[api.Key]api.Object{{}}}
		seed := int64(0)
		for _, b := range []byte(script[:min(len(script), 60)]) {
			seed = seed*31 + int64(b)
			d := dice{rand.New(rand.NewSource(seed)), 2}
			act(t, d, s, m)
			asks(t, d, s, m)
		}
		o := api.Object{Key: api.Key{Kind: script, Space: script, Name: script}, Doc: script}
		if p, e := s.Create(o); e == api.OK && p.Doc != script {
			// A Doc that is told is canonical: told again it is the same.
			p.Rev = s.Rev()
			if q, e := s.Update(p); e != api.OK || q.Doc != p.Doc {
				t.Errorf("Update of what was told: %v, %d", q, e)
			}
		}
		o.Key = key("pods//fuzz")
		if p, e := s.Create(o); e != api.OK && !isZero(p) {
			t.Errorf("Create: %v, %d", p, e)
		}
	})
}
