package store_test

import (
	"fmt"
	"math"
	"slices"
	"strings"
	"testing"

	"seneschal/api"
	"seneschal/store"
)

// story is a store to which this happened, revision by revision.
func story(t *testing.T) *store.Store {
	t.Helper()
	s := store.New()
	made(t, s, object("pods/one/a", "1"))           // 1
	made(t, s, object("pods//a", "2"))              // 2
	changed(t, s, object("pods/one/a", "3"))        // 3
	made(t, s, object("jobs/one/a", "4"))           // 4
	deleted(t, s, "pods/one/a")                     // 5
	made(t, s, object("pods/one-1/b", "6"))         // 6
	made(t, s, object("pods/one/a", "7"))           // 7
	end := object("pods/one/a", "8")                // 8
	end.Ending, end.Labels = true, labels("x=y,z=") //
	changed(t, s, end)
	deleted(t, s, "pods//a")    // 9
	deleted(t, s, "pods/one/a") // 10
	return s
}

// short is an object as a text: its key, its Uid, its Rev, its Doc.
func short(o api.Object) string {
	ending := ""
	if o.Ending {
		ending = "!" + fmt.Sprint(o.Labels)
	}
	return fmt.Sprintf("%s/%s/%s %s %d %s%s", o.Kind, o.Space, o.Name, o.Uid, o.Rev, o.Doc, ending)
}

// storyGets is `pods/one/a` behind each revision, or nothing.
func storyGets() []string {
	return texts("", "pods/one/a u1 1 1", "pods/one/a u1 1 1", "pods/one/a u1 3 3", "pods/one/a u1 3 3", "", "", "pods/one/a u7 7 7", "pods/one/a u7 8 8![{x y} {z }]", "pods/one/a u7 8 8![{x y} {z }]", "")
}

// storyPods is the list of all pods behind each revision.
func storyPods() []string {
	end := "pods/one/a u7 8 8![{x y} {z }]"
	return texts("", "pods/one/a u1 1 1", "pods//a u2 2 2, pods/one/a u1 1 1", "pods//a u2 2 2, pods/one/a u1 3 3", "pods//a u2 2 2, pods/one/a u1 3 3",
		"pods//a u2 2 2", "pods//a u2 2 2, pods/one-1/b u6 6 6", "pods//a u2 2 2, pods/one/a u7 7 7, pods/one-1/b u6 6 6", "pods//a u2 2 2, "+end+", pods/one-1/b u6 6 6", end+", pods/one-1/b u6 6 6", "pods/one-1/b u6 6 6")
}

// storyEvents is what happened by each revision.
func storyEvents() []string {
	end := "![{x y} {z }]"
	return texts("", "1 1 pods/one/a u1 1 1", "1 2 pods//a u2 2 2", "2 3 pods/one/a u1 3 3", "1 4 jobs/one/a u4 4 4", "3 5 pods/one/a u1 5 3", "1 6 pods/one-1/b u6 6 6",
		"1 7 pods/one/a u7 7 7", "2 8 pods/one/a u7 8 8"+end, "3 9 pods//a u2 9 2", "3 10 pods/one/a u7 10 8"+end)
}

func shorts(l []api.Object) string {
	var told []string
	for _, o := range l {
		told = append(told, short(o))
	}
	return strings.Join(told, ", ")
}

// ofRev is what is told of a revision, in a store with 10 of them.
func ofRev(rev, compacted int) api.Errno {
	switch {
	case rev < 0 || rev > 10:
		return api.ErrArg
	case rev != 0 && rev < compacted:
		return api.ErrGone
	}
	return api.OK
}

// revs are all revisions of the story, 0, and those around.
func revs() []int {
	return []int{math.MinInt, -10, -1, 0, 1, 2, 3, 4, 5, 6, 7, 8, 9, 10, 11, 1 << 40, math.MaxInt}
}

// P37: the past as it was, behind each revision, whatever was compacted.
func TestPast(t *testing.T) {
	for compacted := range 11 {
		s := story(t)
		if e := s.Compact(compacted); e != api.OK {
			t.Fatalf("Compact(%d): %d", compacted, e)
		}
		for _, rev := range revs() {
			asksPast(t, s, rev, compacted)
		}
		if s.Rev() != 10 {
			t.Errorf("compacted %d: Rev %d", compacted, s.Rev())
		}
	}
}

func asksPast(t *testing.T, s *store.Store, rev, compacted int) {
	t.Helper()
	at, e := rev, ofRev(rev, compacted)
	if rev == 0 {
		at = 10
	}
	var get, pods string
	wantE := e
	if e == api.OK {
		get, pods = storyGets()[at], storyPods()[at]
		if get == "" {
			wantE = api.ErrNone
		}
	}
	o, f := s.Get(key("pods/one/a"), rev)
	if f != wantE || f == api.OK && short(o) != get || f != api.OK && !isZero(o) {
		t.Errorf("compacted %d: Get(%d) = %s, %d, want %s, %d", compacted, rev, short(o), f, get, wantE)
	}
	l, f := s.List("pods", "", rev)
	if f != e || shorts(l) != pods || e != api.OK && l != nil {
		t.Errorf("compacted %d: List(%d) = %s, %d, want %s, %d", compacted, rev, shorts(l), f, pods, e)
	}
	for _, space := range texts("one", "one-1", "two") {
		var want []string
		for _, one := range strings.Split(pods, ", ") {
			if strings.HasPrefix(one, "pods/"+space+"/") {
				want = append(want, one)
			}
		}
		if l, f := s.List("pods", space, rev); f != e || shorts(l) != strings.Join(want, ", ") {
			t.Errorf("compacted %d: List(%s, %d) = %s, %d, want %s, %d", compacted, space, rev, shorts(l), f, want, e)
		}
	}
	if e == api.OK && rev == 0 && compacted > 0 {
		e = api.ErrGone // of Since 0 stands for the beginning
	}
	var want, got []string
	if e == api.OK {
		want = storyEvents()[rev+1:]
	}
	events, f := s.Since(rev)
	for _, v := range events {
		got = append(got, fmt.Sprintf("%d %d %s", v.Kind, v.Rev, short(v.Object)))
	}
	if f != e || !slices.Equal(got, want) || e != api.OK && events != nil {
		t.Errorf("compacted %d: Since(%d) = %q, %d, want %q, %d", compacted, rev, got, f, want, e)
	}
}

// P37: a store to which nothing happened has a past without anything in it.
func TestEmpty(t *testing.T) {
	for _, s := range []*store.Store{store.New(), {}} {
		if s.Rev() != 0 {
			t.Errorf("Rev: %d", s.Rev())
		}
		for _, rev := range []int{-1, 0, 1} {
			e := api.ErrArg
			if rev == 0 {
				e = api.OK
			}
			if l, f := s.List("pods", "", rev); f != e || len(l) != 0 {
				t.Errorf("List(%d): %v, %d", rev, l, f)
			}
			if l, f := s.Since(rev); f != e || len(l) != 0 {
				t.Errorf("Since(%d): %v, %d", rev, l, f)
			}
			if f := s.Compact(rev); f != e {
				t.Errorf("Compact(%d): %d", rev, f)
			}
			if rev == 0 {
				e = api.ErrNone
			}
			if o, f := s.Get(key("pods//a"), rev); f != e || !isZero(o) {
				t.Errorf("Get(%d): %v, %d", rev, o, f)
			}
		}
		if made(t, s, object("pods//a", "0")).Rev != 1 {
			t.Error("the first revision is not 1")
		}
	}
}

// P37: what is told of kind and space comes ahead of what is told of the revision.
func TestListErrors(t *testing.T) {
	s := story(t)
	s.Compact(4)
	for _, rev := range []int{-1, 0, 3, 4, 11} {
		for _, m := range append(mistakes(), mistake{"", api.ErrName}) {
			for _, space := range texts("", "one", "-", long(64)) {
				if l, e := s.List(m.s, space, rev); e != m.e || l != nil {
					t.Errorf("List(%q, %q, %d): %v, %d, want %d", m.s, space, rev, l, e, m.e)
				}
			}
			if m.s == "" {
				continue
			}
			if l, e := s.List("pods", m.s, rev); e != m.e || l != nil {
				t.Errorf("List(pods, %q, %d): %v, %d, want %d", m.s, rev, l, e, m.e)
			}
		}
		// What is not there is no error.
		for _, kind := range texts("pod", "pods-1", "nodes", long(63)) {
			if l, e := s.List(kind, "", rev); e != errOfList(rev) || len(l) != 0 {
				t.Errorf("List(%s, %d): %v, %d", kind, rev, l, e)
			}
		}
	}
}

func errOfList(rev int) api.Errno {
	return ofRev(rev, 4)
}

// P37: a list rises by Space, then by Name, byte by byte, in whatever order its objects were made.
func TestListOrder(t *testing.T) {
	spaces := texts("", "0", "a", "a-a", "a0", "aa", "b")
	names := texts("0", "1", "10", "2", "a", "a-a", "a0", "b")
	for turn := range 5 {
		s := store.New()
		var want []string
		n := len(spaces) * len(names)
		for i := range n {
			at := (i*(2*turn+1)*9 + turn) % n
			if (2*turn+1)%7 == 0 {
				at = n - 1 - i
			}
			made(t, s, object("pods/"+spaces[at/len(names)]+"/"+names[at%len(names)], fmt.Sprint(at)))
		}
		for i := range n {
			want = append(want, fmt.Sprint(i))
		}
		for _, kind := range texts("jobs", "pod") {
			made(t, s, object(kind+"/a/a", "100"))
		}
		l, e := s.List("pods", "", 0)
		var got []string
		for _, o := range l {
			got = append(got, o.Doc)
		}
		if e != api.OK || !slices.Equal(got, want) {
			t.Errorf("List: %q, %d", got, e)
		}
		for i, space := range spaces[1:] {
			l, e := s.List("pods", space, n)
			got = nil
			for _, o := range l {
				got = append(got, o.Doc)
			}
			if e != api.OK || !slices.Equal(got, want[(i+1)*len(names):(i+2)*len(names)]) {
				t.Errorf("List(%s): %q, %d", space, got, e)
			}
		}
	}
}

// P37: Compact goes ahead alone, up to what happened.
func TestCompact(t *testing.T) {
	s := story(t)
	at := 0
	for _, one := range []struct {
		rev int
		e   api.Errno
	}{
		{-1, api.ErrArg}, {11, api.ErrArg}, {math.MinInt, api.ErrArg}, {math.MaxInt, api.ErrArg}, {0, api.OK}, {0, api.OK},
		{3, api.OK}, {3, api.OK}, {2, api.ErrArg}, {0, api.ErrArg}, {-1, api.ErrArg}, {11, api.ErrArg}, {4, api.OK},
		{10, api.OK}, {10, api.OK}, {9, api.ErrArg}, {11, api.ErrArg}, {0, api.ErrArg},
	} {
		if e := s.Compact(one.rev); e != one.e {
			t.Errorf("Compact(%d) at %d: %d, want %d", one.rev, at, e, one.e)
		}
		if one.e == api.OK {
			at = one.rev
		}
		for _, rev := range revs() {
			asksPast(t, s, rev, at)
		}
	}
	// It goes on from there.
	if o := made(t, s, object("pods/one/a", "11")); short(o) != "pods/one/a u11 11 11" {
		t.Errorf("Create: %s", short(o))
	}
	if l, e := s.Since(10); e != api.OK || len(l) != 1 || l[0].Kind != api.EvAdded || l[0].Rev != 11 {
		t.Errorf("Since: %v, %d", l, e)
	}
	if e := s.Compact(11); e != api.OK {
		t.Errorf("Compact: %d", e)
	}
	if l, e := s.Since(10); e != api.ErrGone || l != nil {
		t.Errorf("Since: %v, %d", l, e)
	}
	if l, e := s.Since(11); e != api.OK || len(l) != 0 {
		t.Errorf("Since: %v, %d", l, e)
	}
	if o, e := s.Get(key("pods/one-1/b"), 11); e != api.OK || short(o) != "pods/one-1/b u6 6 6" {
		t.Errorf("Get: %s, %d", short(o), e)
	}
}

// P37: the past stays as it was, whatever happens later.
func TestPastStays(t *testing.T) {
	s := story(t)
	for i := range 200 {
		k := fmt.Sprintf("pods/one/n%d", i%40)
		if i%80 < 40 {
			made(t, s, object(k, "0"))
		} else {
			deleted(t, s, k)
		}
		changed(t, s, object("jobs/one/a", fmt.Sprint(i)))
	}
	for rev := range 10 {
		if l, e := s.List("pods", "", rev+1); e != api.OK || shorts(l) != storyPods()[rev+1] {
			t.Errorf("List(%d): %s, %d", rev+1, shorts(l), e)
		}
		if o, e := s.Get(key("pods/one/a"), rev+1); e == api.OK && short(o) != storyGets()[rev+1] {
			t.Errorf("Get(%d): %s, %d", rev+1, short(o), e)
		}
	}
}
