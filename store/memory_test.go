package store_test

import (
	"fmt"
	"runtime"
	"slices"
	"strings"
	"sync"
	"testing"
	"unsafe"

	"seneschal/api"
	"seneschal/store"
)

func ownTexts(l []string) []string {
	told := make([]string, 0, len(l)+2)
	for _, s := range l {
		told = append(told, strings.Clone(s))
	}
	copy(told[len(told):cap(told)], []string{strings.Clone("spare"), strings.Clone("room")})
	return told
}

// own is o in memory that nobody else has, with room behind each list.
func own(o api.Object) api.Object {
	o.Kind, o.Space, o.Name = strings.Clone(o.Kind), strings.Clone(o.Space), strings.Clone(o.Name)
	o.Uid, o.Doc = strings.Clone(o.Uid), strings.Clone(o.Doc)
	o.Owners, o.Holds = ownTexts(o.Owners), ownTexts(o.Holds)
	labels := make([]api.Label, 0, len(o.Labels)+1)
	for _, l := range o.Labels {
		labels = append(labels, api.Label{Key: strings.Clone(l.Key), Val: strings.Clone(l.Val)})
	}
	labels[:cap(labels)][len(labels)] = api.Label{Key: strings.Clone("spare"), Val: strings.Clone("room")}
	o.Labels = labels
	return o
}

// whole are all texts of o, those in the room behind its lists, too.
func whole(o api.Object) []string {
	told := texts(o.Kind, o.Space, o.Name, o.Uid, o.Doc)
	for _, l := range o.Labels[:cap(o.Labels)] {
		told = append(told, l.Key, l.Val)
	}
	return slices.Concat(told, o.Owners[:cap(o.Owners)], o.Holds[:cap(o.Holds)])
}

// span is a piece of memory.
type span struct{ begin, end uintptr }

func spanOf[T any](at *T, n int) span {
	begin := uintptr(unsafe.Pointer(at))
	return span{begin, begin + uintptr(n)*unsafe.Sizeof(*at)}
}

// spans is all memory that objects have: their texts and their lists, with the room behind these.
func spans(objects ...api.Object) []span {
	var l []span
	for _, o := range objects {
		for _, s := range whole(o) {
			l = append(l, spanOf(unsafe.StringData(s), len(s)))
		}
		l = append(l, spanOf(unsafe.SliceData(o.Labels), cap(o.Labels)), spanOf(unsafe.SliceData(o.Owners), cap(o.Owners)), spanOf(unsafe.SliceData(o.Holds), cap(o.Holds)))
	}
	return l
}

// apart asks that no memory of these objects is also memory of another one of them.
func apart(t *testing.T, objects ...api.Object) {
	t.Helper()
	l := slices.DeleteFunc(spans(objects...), func(s span) bool { return s.begin == s.end })
	slices.SortFunc(l, func(a, b span) int { return int(a.begin) - int(b.begin) })
	for i := 1; i < len(l); i++ {
		if l[i].begin < l[i-1].end {
			t.Errorf("memory from %x on is there twice", l[i].begin)
		}
	}
}

func objectsOf(l []api.Event) []api.Object {
	var told []api.Object
	for _, v := range l {
		told = append(told, v.Object)
	}
	return told
}

// answers is what s answers to all that it can be asked.
func answers(t *testing.T, s *store.Store) []api.Object {
	t.Helper()
	var told []api.Object
	add := func(l []api.Object, e api.Errno) {
		t.Helper()
		if e != api.OK {
			t.Fatalf("an answer is %d", e)
		}
		told = append(told, l[:cap(l)]...)
	}
	for rev := range s.Rev() + 1 {
		add(s.List("pods", "", rev))
		if o, e := s.Get(key("pods/one/a"), rev); e == api.OK {
			told = append(told, o)
		}
		l, e := s.Since(rev)
		add(objectsOf(l[:cap(l)]), e)
	}
	return told
}

// rich is a store that has much, what was handed in to it, and what it answered then.
func rich(t *testing.T) (*store.Store, []api.Object, []api.Object) {
	t.Helper()
	s := store.New()
	var in, out []api.Object
	note := func(o, p api.Object, e api.Errno) {
		t.Helper()
		if e != api.OK {
			t.Fatalf("of %v: %d", o.Key, e)
		}
		in, out = append(in, o), append(out, p)
	}
	for _, name := range texts("a", "b") {
		o := api.Object{Key: key("pods/one/" + name), Labels: labels("aa=11,bb=22"), Owners: texts("u1", "u2"), Holds: texts("hh", "ii"), Doc: `{"a":"text"}`}
		o = own(o)
		p, e := s.Create(o)
		note(o, p, e)
		o = own(p)
		p, e = s.Update(o)
		note(o, p, e)
	}
	o := own(api.Object{Key: key("pods/one/a")})
	p, e := s.Delete(o.Key, 0)
	note(o, p, e)
	return s, in, out
}

// P2: what is answered is new memory: nothing of it is what was handed in, what is kept, or what was answered otherwise.
func TestNewMemory(t *testing.T) {
	s, in, out := rich(t)
	apart(t, slices.Concat(in, out, answers(t, s), answers(t, s))...)
	s.Compact(3)
	l, e := s.Since(3)
	o, f := s.Get(key("pods/one/b"), 0)
	if e != api.OK || f != api.OK {
		t.Fatal(e, f)
	}
	apart(t, slices.Concat(in, out, objectsOf(l), []api.Object{o})...)
}

// spoilt makes all that can be written of o another thing.
func spoilt(o api.Object) {
	for i := range o.Labels[:cap(o.Labels)] {
		o.Labels[:cap(o.Labels)][i] = api.Label{Key: "spoilt", Val: "spoilt"}
	}
	for _, l := range [][]string{o.Owners, o.Holds} {
		for i := range l[:cap(l)] {
			l[:cap(l)][i] = "spoilt"
		}
	}
}

// P2: whatever is done to what was handed in, and to what was answered, the store is as it was.
func TestNotKept(t *testing.T) {
	s, in, out := rich(t)
	before := told(answers(t, s))
	for _, o := range slices.Concat(in, out, answers(t, s)) {
		spoilt(o)
	}
	for rev := range s.Rev() + 1 {
		l, _ := s.List("pods", "", rev)
		clear(l[:cap(l)])
		v, _ := s.Since(rev)
		clear(v[:cap(v)])
	}
	if after := told(answers(t, s)); after != before {
		t.Errorf("the store has become %s, from %s", after, before)
	}
}

// P2: nothing that is handed in is changed, the room behind the lists included.
func TestHandedIn(t *testing.T) {
	s := store.New()
	bad := good()
	bad.Holds = texts("z", "a", "z")
	nothing := api.Object{Key: key("pods//a"), Labels: []api.Label{}, Owners: texts(), Holds: texts(), Doc: " 1 "}
	for _, one := range []api.Object{good(), bad, nothing, {}} {
		o, before := own(one), own(one)
		store.CheckObject(o)
		for range 3 {
			p, _ := s.Create(o)
			o.Rev, before.Rev = p.Rev, p.Rev
			s.Update(o)
			s.Delete(o.Key, o.Rev)
			s.Update(o)
		}
		if told(o) != told(before) || !slices.Equal(whole(o), whole(before)) {
			t.Errorf("what was handed in has become %q, from %q", whole(o), whole(before))
		}
	}
}

// P2: what one store has no other one has, nor is anything between calls at the same time.
func TestApart(t *testing.T) {
	var all sync.WaitGroup
	for n := range 4 {
		all.Go(func() {
			for range 20 {
				s, other := store.New(), store.New()
				for i := range 20 {
					k := fmt.Sprintf("pods/one/n%d", i%(n+2))
					if o, e := s.Create(object(k, "0")); (e == api.OK) != (i < n+2) || e == api.OK && o.Rev != i+1 {
						t.Errorf("Create of %s: %v, %d", k, o, e)
					}
				}
				if l, e := s.List("pods", "", 0); len(l) != n+2 || e != api.OK {
					t.Errorf("List: %v, %d", l, e)
				}
				if l, e := other.Since(0); len(l) != 0 || e != api.OK || other.Rev() != 0 {
					t.Errorf("Since of the other one: %v, %d", l, e)
				}
			}
		})
	}
	all.Wait()
}

// heap is how many bytes are in use.
func heap() int {
	runtime.GC()
	var m runtime.MemStats
	runtime.ReadMemStats(&m)
	return int(m.HeapAlloc)
}

// P37: what is forgotten takes no room.
func TestForgotten(t *testing.T) {
	doc := `"` + strings.Repeat("x", 1998) + `"`
	s := store.New()
	begin := heap()
	for i := range 5000 {
		k := fmt.Sprintf("pods/one/n%d", i)
		made(t, s, object(k, doc))
		changed(t, s, object(k, doc))
		if i >= 50 {
			deleted(t, s, fmt.Sprintf("pods/one/n%d", i-50))
		}
	}
	grown := heap() - begin
	s.Compact(s.Rev() * 9 / 20)
	if left := heap() - begin; left > grown*6/10 {
		t.Errorf("%d bytes of %d are left of somewhat more than half of the revisions", left, grown)
	}
	for rev := s.Rev() / 2; rev <= s.Rev(); rev += 7 {
		s.Compact(rev)
	}
	s.Compact(s.Rev())
	if left := heap() - begin; left > grown/10 {
		t.Errorf("%d bytes of %d are left", left, grown)
	}
	if l, e := s.List("pods", "", 0); len(l) != 50 || e != api.OK {
		t.Errorf("List: %d, %d", len(l), e)
	}
}

// P1: many changes of many objects, and the past asked for and forgotten piece by piece.
func TestMany(t *testing.T) {
	s := store.New()
	n := 30000
	made(t, s, object("pods/one/a", "0"))
	for i := range n {
		k := fmt.Sprintf("pods/one/n%d", i)
		made(t, s, object(k, "0"))
		changed(t, s, object("pods/one/a", fmt.Sprint(i)))
		deleted(t, s, k)
	}
	for i := range n {
		rev := 3*i + 3
		if o, e := s.Get(key("pods/one/a"), rev); e != api.OK || o.Doc != fmt.Sprint(i) {
			t.Fatalf("Get(%d): %v, %d", rev, o, e)
		}
		if l, e := s.List("pods", "", rev); e != api.OK || len(l) != 2 || l[1].Rev != rev-1 {
			t.Fatalf("List(%d): %v, %d", rev, l, e)
		}
		if i%3 == 0 {
			if e := s.Compact(rev); e != api.OK {
				t.Fatalf("Compact(%d): %d", rev, e)
			}
		}
		if i%1000 == 0 {
			if l, e := s.Since(rev); e != api.OK || len(l) != s.Rev()-rev {
				t.Fatalf("Since(%d): %d, %d", rev, len(l), e)
			}
		}
	}
	huge := strings.Repeat("a", 50<<20)
	for range 100 {
		o := api.Object{Key: api.Key{Kind: huge, Space: huge, Name: huge}, Doc: huge}
		if e := store.CheckObject(o); e != api.ErrLarge {
			t.Fatalf("CheckObject: %d", e)
		}
		o.Key = key("pods/one/a")
		if e := store.CheckObject(o); e != api.ErrLarge {
			t.Fatalf("CheckObject: %d", e)
		}
	}
}
