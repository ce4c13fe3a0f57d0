package memidx

import (
	"fmt"
	"math"
	"math/rand"
	"slices"
	"strings"
	"testing"

	"loggia/api"
	"loggia/event"
	"loggia/posting"
)

// at is a post.
func at(doc int, pos ...int) api.Post { return api.Post{Doc: doc, Pos: pos} }

// timed is an index of docs of these times.
func timed(t *testing.T, times ...int) both {
	t.Helper()
	var l []api.Event
	for i, at := range times {
		l = append(l, of(at, "n", fmt.Sprint(i)))
	}
	return with(t, 1, 3, l...)
}

// spoken is an index of a doc of each text.
func spoken(t *testing.T, texts ...string) both {
	t.Helper()
	var l []api.Event
	for i, s := range texts {
		l = append(l, of(10*i, "msg", s))
	}
	return with(t, 5, 2, l...)
}

// goodIndexes are indexes with docs: few, many, and at the ends.
func goodIndexes(t *testing.T) []both {
	l := []both{
		start(), known(t), timed(t, 5), timed(t, oddTimes...), spoken(t, ""), spoken(t, "-"), spoken(t, "a"), spoken(t, "a", "", "a"), spoken(t, "b a", "a b"), spoken(t, slices.Repeat([]string{"the same, the same"}, 70)...),
		spoken(t, xs(40), xs(41), xs(32), xs(31)), spoken(t, strings.Repeat("y", 31)+"\xc3\x9f", "GR\xc3\x9cN \xd0\x9f\xd0\xa0 12\xc3\x9f! a\x00b c\xff"), with(t, 1, 1, of(0), of(1), alike(16, "_", "go on and on")), with(t, 7, 64, bare(200)...),
		with(t, 1, 2, of(0, "z", "a"), of(1, "a", "z"), of(2, "a_", "a", "a0", "a", "a", "a", "aa", "a")), with(t, 1, 1, alike(16, "a", strings.Repeat("a ", 2000)), alike(15, strings.Repeat("n", 32), strings.Repeat("\xff", 4000))),
		with(t, 3, 5, of(0, "a", "b"), of(1, "a", "b", "a", "b"), of(2, "a", "b b", "a", "b", "b", "b"), of(3), of(4, "a", "c"), of(5, "a", "b")),
	}
	r := rand.New(rand.NewSource(2))
	for i := range 100 {
		l = append(l, with(t, 1+r.Intn(1<<r.Intn(40)), 1+r.Intn(9), randomEvents(r, 1+i)...))
	}
	return l
}

func TestP14_2Has(t *testing.T) {
	for _, w := range goodIndexes(t) {
		for range 2 { // asking changes nothing
			w.check(t)
		}
	}
}

func TestP14_2HasNone(t *testing.T) {
	x := New()
	low, high, ok := x.Times()
	first, last := x.Seqs()
	if x.Len() != 0 || x.Size() != 0 || low != 0 || high != 0 || ok || first != 0 || last != 0 || len(x.Docs()) != 0 || len(x.Terms()) != 0 {
		t.Error("an index without docs has some")
	}
	for _, i := range []int{0, 1, -1, math.MinInt, math.MaxInt} {
		if d, e := x.Doc(i); e != api.ErrRange || d.Seq != 0 {
			t.Errorf("Doc(%d): %v, %d", i, d, e)
		}
	}
	for _, s := range []string{"", "a", "a:a", "\xff"} {
		if len(x.Posts(s)) != 0 || len(x.Prefix(s)) != 0 {
			t.Errorf("it has %q", s)
		}
	}
}

func TestP14_2HasKnown(t *testing.T) {
	x := known(t).x
	low, high, ok := x.Times()
	first, last := x.Seqs()
	if x.Len() != 3 || x.Size() != 3*16+3+14+4+4+3+2+3+3+3+4 || low != -10 || high != 70 || !ok || first != 5 || last != 7 {
		t.Error(x.Len(), x.Size(), low, high, ok, first, last)
	}
	want := []api.Doc{{Seq: 5, E: of(70, "msg", "disk full disk", "host", "disk")}, {Seq: 6, E: of(-10, "msg", "ok")}, {Seq: 7, E: of(50, "msg", "Dis", "msg", "disk")}}
	if l := x.Docs(); !sameDocs(l, want) {
		t.Error(l)
	}
	for i := range want {
		if d, e := x.Doc(i); e != api.OK || !sameDocs([]api.Doc{d}, want[i:i+1]) {
			t.Error(d, e)
		}
	}
	for _, i := range []int{-1, 3, 4, -3, math.MaxInt, math.MinInt} {
		if d, e := x.Doc(i); e != api.ErrRange || !sameDocs([]api.Doc{d}, make([]api.Doc, 1)) {
			t.Error(i, d, e)
		}
	}
}

func TestP14_2Times(t *testing.T) {
	for _, c := range []struct {
		times     []int
		low, high int
	}{
		{[]int{0}, 0, 0}, {[]int{-1}, -1, -1}, {[]int{5, 5, 5}, 5, 5}, {[]int{-5, -5}, -5, -5}, {[]int{9, 8, 7, -1}, -1, 9}, {[]int{1, 2, 3}, 1, 3}, {[]int{2, 3, 1}, 1, 3}, {[]int{-3, -2}, -3, -2},
		{[]int{math.MinInt}, math.MinInt, math.MinInt}, {[]int{math.MaxInt}, math.MaxInt, math.MaxInt}, {[]int{math.MaxInt, math.MinInt}, math.MinInt, math.MaxInt}, {[]int{0, math.MinInt, math.MaxInt, 0}, math.MinInt, math.MaxInt}, {[]int{math.MaxInt, math.MaxInt}, math.MaxInt, math.MaxInt},
	} {
		w := timed(t, c.times...)
		if low, high, ok := w.x.Times(); low != c.low || high != c.high || !ok {
			t.Errorf("of %d: %d, %d, %v", c.times, low, high, ok)
		}
		w.check(t)
	}
}

func TestP14_2Size(t *testing.T) {
	w := start()
	want := 0
	for i, n := range []int{16, 17, 48, 65536, 65535, 1000, 16, 65536, 30000} {
		w.added(t, batch(i+1, sized(n)))
		want += n
		if w.x.Size() != want {
			t.Fatalf("behind %d docs: %d, not %d", i+1, w.x.Size(), want)
		}
	}
	for range 20 {
		_, last := w.x.Seqs()
		w.added(t, batch(last+1, slices.Repeat([]api.Event{sized(1024)}, 64)...))
		want += 65536
	}
	if w.x.Size() != want || want <= 1<<20 {
		t.Error(w.x.Size(), want)
	}
}

func TestP14_3Example(t *testing.T) {
	w := start()
	w.added(t, batch(1, of(0, "msg", "a b"), of(0, "msg", "b")))
	if l := w.x.Posts("msg:b"); !samePosts(l, []api.Post{at(0, 1), at(1, 0)}) {
		t.Error(l)
	}
}

func TestP14_3Known(t *testing.T) {
	x := known(t).x
	if l := x.Terms(); !slices.Equal(l, []string{"host:disk", "msg:dis", "msg:disk", "msg:full", "msg:ok"}) {
		t.Errorf("%q", l)
	}
	for s, want := range map[string][]api.Post{
		"host:disk": {at(0, 67)}, "msg:dis": {at(2, 0)}, "msg:disk": {at(0, 0, 2), at(2, 65)}, "msg:full": {at(0, 1)}, "msg:ok": {at(1, 0)},
		"": nil, "a": nil, "h": nil, "host:dis": nil, "host:diska": nil, "msg:": nil, "msg": nil, "msg:disj": nil, "msg:disl": nil, "msg:di": nil, "msg:disks": nil, "msg:Dis": nil, "msg:disk ": nil, "disk": nil, "zone:a": nil, "\xff": nil, "host:ok": nil,
	} {
		if l := x.Posts(s); !samePosts(l, want) {
			t.Errorf("Posts of %q: %v", s, l)
		}
	}
	for s, want := range map[string][]api.Post{
		"": {at(0, 0, 1, 2, 67), at(1, 0), at(2, 0, 65)}, "m": {at(0, 0, 1, 2), at(1, 0), at(2, 0, 65)}, "msg:": {at(0, 0, 1, 2), at(1, 0), at(2, 0, 65)}, "msg:d": {at(0, 0, 2), at(2, 0, 65)}, "msg:dis": {at(0, 0, 2), at(2, 0, 65)}, "msg:disk": {at(0, 0, 2), at(2, 65)},
		"msg:disks": nil, "msg:f": {at(0, 1)}, "msg:full": {at(0, 1)}, "msg:g": nil, "msg:o": {at(1, 0)}, "h": {at(0, 67)}, "host:disk": {at(0, 67)}, "host:disk\x00": nil, "i": nil, "M": nil, "msg;": nil, "z": nil, "\x00": nil, "\xff": nil, "sg:disk": nil, "disk": nil,
	} {
		if l := x.Prefix(s); !samePosts(l, want) {
			t.Errorf("Prefix of %q: %v", s, l)
		}
	}
}

// Terms of many docs come in one batch, or one by one: it is the same.
func TestP14_3Batches(t *testing.T) {
	r := rand.New(rand.NewSource(3))
	l := randomEvents(r, 64)
	for len(l) < 60 {
		l = append(l, randomEvent(r))
	}
	for _, n := range []int{1, 2, 7, 32, 64} {
		with(t, 11, n, l...).check(t)
	}
}

// A doc's words of the empty beginning are all of its words.
func TestP14_3AllTerms(t *testing.T) {
	for _, w := range goodIndexes(t) {
		all := w.x.Prefix("")
		for i, stands := range w.m.stands {
			if len(stands) == 0 {
				continue
			}
			if len(all) == 0 || all[0].Doc != i || len(all[0].Pos) != len(stands) {
				t.Fatalf("of %s: the doc %d has %d words", short(w.m.docs), i, len(stands))
			}
			all = all[1:]
		}
		if len(all) > 0 {
			t.Fatalf("of %s: %v", short(w.m.docs), all)
		}
	}
}

func TestP14_4Clear(t *testing.T) {
	for _, w := range goodIndexes(t) {
		for i := range 3 {
			w.x.Clear()
			*w.m = plain{}
			w.check(t)
			if i == 1 { // cleared twice
				w.x.Clear()
				w.check(t)
			}
			w.added(t, batch(1+i*i, of(-i, "msg", "x y", "new", fmt.Sprint("a", i)), of(i)))
			w.check(t)
			w.refused(t, batch(1+i*i, of(0)), api.ErrMem)
		}
	}
}

func TestP14_4Fork(t *testing.T) {
	for _, w := range goodIndexes(t) {
		other := both{w.x.Fork(), w.m.fork()}
		if other.x == nil || other.x == w.x {
			t.Fatal("a fork is none, or the same")
		}
		third := both{other.x.Fork(), w.m.fork()}
		other.check(t)
		next := 1
		if len(w.m.docs) > 0 {
			next = w.m.docs[len(w.m.docs)-1].Seq + 1
		}
		for i := range 3 { // each grows on by other docs of the same terms
			w.added(t, batch(next+i, of(-100, "msg", "disk a", "w", "w")))
			other.added(t, batch(next+2*i, of(100, "a", "b", "o", "o"), of(-200, "msg", "a")))
			w.check(t)
			other.check(t)
			third.check(t)
		}
		w.x.Clear()
		*w.m = plain{}
		w.check(t)
		other.check(t)
		third.check(t)
		w.added(t, batch(2, of(0, "msg", "a a")))
		other.x.Clear()
		*other.m = plain{}
		w.check(t)
		other.check(t)
		third.check(t)
	}
}

func TestP14_4OfNobodys(t *testing.T) {
	var none Index
	for _, x := range []*Index{nil, {}, new(Index), &none} {
		for _, b := range []api.Batch{batch(1, of(0, "a", "b")), batch(1, bare(64)...), {}, batch(0, of(0)), batch(1, of(0, "A", ""))} {
			if e := x.Add(b); e != api.ErrNil {
				t.Errorf("Add: %d", e)
			}
		}
		x.Clear()
		if y := x.Fork(); y != nil {
			t.Error("Fork of none is one")
		}
		for _, i := range []int{0, 1, -1, math.MinInt, math.MaxInt} {
			if d, e := x.Doc(i); e != api.ErrNil || !sameDocs([]api.Doc{d}, make([]api.Doc, 1)) {
				t.Errorf("Doc(%d): %v, %d", i, d, e)
			}
		}
		for _, s := range []string{"", "a", "a:b", "\xff", xs(70)} {
			if len(x.Posts(s)) > 0 || len(x.Prefix(s)) > 0 {
				t.Errorf("it has %q", s)
			}
		}
		low, high, ok := x.Times()
		first, last := x.Seqs()
		if x.Len() != 0 || x.Size() != 0 || low != 0 || high != 0 || ok || first != 0 || last != 0 || len(x.Docs()) > 0 || len(x.Terms()) > 0 {
			t.Error("an index that nobody made has docs")
		}
	}
}

// An Index that was copied by hand is as odd as can be, but nothing panics.
func TestRule1Copied(t *testing.T) {
	x := known(t).x
	copied := *x
	for _, y := range []*Index{&copied, x, &copied} {
		y.Add(batch(8, of(0, "msg", "a"), of(1, "new", "disk")))
		for _, z := range []*Index{x, &copied, y.Fork()} {
			for _, s := range []string{"", "msg:", "msg:a", "new:disk"} {
				z.Posts(s)
				z.Prefix(s)
			}
			z.Docs()
			z.Terms()
			z.Times()
		}
	}
	x.Clear()
	copied.Fork().Prefix("")
	if x.Len() != 0 || copied.Len() != 5 {
		t.Error(x.Len(), copied.Len())
	}
}

func TestP14_5Rows(t *testing.T) {
	r := rand.New(rand.NewSource(4))
	for i := range 40 {
		w := with(t, 1, 64, randomEvents(r, 10*(i+1))...)
		for _, s := range w.x.Terms() {
			for n := 0; n <= len(s); n++ {
				if l := w.x.Prefix(s[:n]); len(l) == 0 || posting.Check(l) != api.OK {
					t.Fatalf("Prefix of %q: %.100v", s[:n], l)
				}
			}
			if l := w.x.Posts(s); len(l) == 0 || posting.Check(l) != api.OK {
				t.Fatalf("Posts of %q: %.100v", s, l)
			}
		}
	}
}

// What a doc has in an index of many is what it has in one of it alone.
func TestP14_6Apart(t *testing.T) {
	for _, w := range goodIndexes(t) {
		for i, d := range w.m.docs {
			if len(w.m.docs) > 30 && i%11 > 0 {
				continue
			}
			alone := New()
			if e := alone.Add(api.Batch{Seq: d.Seq, Events: []api.Event{d.E}}); e != api.OK {
				t.Fatal(e)
			}
			texts := textsAbout(alone.Terms())
			if terms := event.Terms(d.E); len(terms) != len(alone.Terms()) {
				t.Fatalf("%v has the terms %q", d, alone.Terms())
			}
			for _, s := range texts {
				if p, own := w.x.Posts(s), alone.Posts(s); !samePosts(onlyOf(p, i), own) {
					t.Fatalf("Posts of %q in %d of %s: %v, not %v", s, i, short(w.m.docs), onlyOf(p, i), own)
				}
				if p, own := w.x.Prefix(s), alone.Prefix(s); !samePosts(onlyOf(p, i), own) {
					t.Fatalf("Prefix of %q in %d of %s: %v, not %v", s, i, short(w.m.docs), onlyOf(p, i), own)
				}
			}
		}
	}
}

// onlyOf is the posts of a doc, as if it were the first one.
func onlyOf(l []api.Post, doc int) []api.Post {
	var some []api.Post
	for _, p := range l {
		if p.Doc == doc {
			some = append(some, api.Post{Pos: p.Pos})
		}
	}
	return some
}

// spoilEvents turns all that events have, and what could stand behind them.
func spoilEvents(l []api.Event) {
	l = l[:cap(l)]
	for i := range l {
		fields := l[i].Fields[:cap(l[i].Fields)]
		for k := range fields {
			fields[k] = api.Field{Name: "spoilt", Text: "spoilt"}
		}
		l[i].At = -9
	}
}

// spoilDocs turns all that docs have, and what could stand behind them.
func spoilDocs(l []api.Doc) {
	l = l[:cap(l)]
	for i := range l {
		fields := l[i].E.Fields[:cap(l[i].E.Fields)]
		for k := range fields {
			fields[k] = api.Field{Name: "spoilt", Text: "spoilt"}
		}
		l[i].Seq, l[i].E.At = -9, -9
	}
}

// spoilPosts turns all that posts have, and what could stand behind them.
func spoilPosts(l []api.Post) {
	l = l[:cap(l)]
	for i := range l {
		pos := l[i].Pos[:cap(l[i].Pos)]
		for k := range pos {
			pos[k] = -9
		}
		l[i].Doc = -9
	}
}

func TestRule4HandedIn(t *testing.T) {
	r := rand.New(rand.NewSource(5))
	for range 30 {
		w := start()
		next := 1
		for range 5 {
			l := randomEvents(r, 20)
			for i := range l {
				l[i].Fields = append(make([]api.Field, 0, len(l[i].Fields)+3), l[i].Fields...)
			}
			b := batch(next, l...)
			was := copyOfBatch(b)
			w.added(t, b)
			if b.Seq != was.Seq || !slices.EqualFunc(b.Events, was.Events, event.Same) {
				t.Fatal("Add changes what is handed in")
			}
			spoilEvents(b.Events)
			w.check(t)
			next += len(l)
		}
		bad := batch(next+1, of(0, "a", "b"))
		w.refused(t, bad, api.ErrMem)
		spoilEvents(bad.Events)
		w.check(t)
	}
}

// What was handed out is turned by who asked: neither the index, nor its fork, nor another answer, nor another part of the same one is.
func TestRule4HandedOut(t *testing.T) {
	for _, w := range goodIndexes(t)[:40] {
		other := both{w.x.Fork(), w.m.fork()}
		docs, again := w.x.Docs(), w.x.Docs()
		for i := range docs {
			spoilDocs(docs[i : i+1 : i+1])
			if !sameDocs(docs[i+1:], w.m.docs[i+1:]) {
				t.Fatal("docs of one answer share memory")
			}
		}
		spoilDocs(docs)
		if !sameDocs(again, w.m.docs) {
			t.Fatal("answers of Docs share memory")
		}
		if d, e := w.x.Doc(0); e == api.OK {
			spoilDocs([]api.Doc{d})
		}
		for _, s := range textsAbout(w.m.terms()) {
			for _, ask := range []func(string) []api.Post{w.x.Posts, w.x.Prefix} {
				one, two := ask(s), ask(s)
				for i := range one {
					spoilPosts(one[i : i+1 : i+1])
					if !samePosts(one[i+1:], two[i+1:]) {
						t.Fatal("posts of one answer share memory")
					}
				}
				spoilPosts(one)
				if !samePosts(two, ask(s)) {
					t.Fatal("answers share memory")
				}
			}
		}
		terms := w.x.Terms()
		clear(terms[:cap(terms)])
		w.check(t)
		other.check(t)
	}
}

// What is put behind an answer's lists by who asked, is nowhere else.
func TestRule4RoomBehind(t *testing.T) {
	w := with(t, 1, 2, of(1, "msg", "a b c"), of(2, "msg", "a"), of(3, "msg", "a", "n", "b", "o", "c"))
	for range 2 {
		other := w.x.Fork()
		docs := w.x.Docs()
		_ = append(docs[0].E.Fields, of(0, "spoilt", "spoilt").Fields...)
		_ = append(docs[:1], api.Doc{Seq: -9})
		l := w.x.Posts("msg:a")
		_ = append(l[0].Pos, -9)
		_ = append(l[:1], at(-9))
		_ = append(w.x.Prefix("")[0].Pos, -9)
		_, last := w.x.Seqs()
		w.check(t)
		w.added(t, batch(last+1, of(4, "msg", "a")))
		w.check(t)
		if other.Len()+1 != w.x.Len() || len(other.Posts("msg:a"))+1 != len(w.x.Posts("msg:a")) {
			t.Error("a fork grows with what it was made of")
		}
	}
}

// The same batches make the same answers, in whatever order a map is gone through.
func TestRule5Again(t *testing.T) {
	r := rand.New(rand.NewSource(6))
	l := randomEvents(r, 64)
	for range 20 {
		w := with(t, 4, 9, l...)
		for range 5 {
			w.checkTerms(t)
		}
	}
}
