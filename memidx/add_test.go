package memidx

import (
	"fmt"
	"math"
	"math/rand"
	"slices"
	"strings"
	"testing"

	"loggia/api"
	"loggia/posting"
)

// both is an index, and what it is to have.
type both struct {
	x *Index
	m *plain
}

// start is an index without docs.
func start() both { return both{New(), &plain{}} }

// with is an index with one doc of each event, from a number on, added by batches of up to n events.
func with(t *testing.T, seq, n int, l ...api.Event) both {
	t.Helper()
	w := start()
	for some := range slices.Chunk(l, n) {
		w.added(t, batch(seq, some...))
		seq += len(some)
	}
	return w
}

// add puts a batch in, and holds the answer against the model's.
func (w both) add(t *testing.T, b api.Batch) api.Errno {
	t.Helper()
	e, want := w.x.Add(b), w.m.add(b)
	if e != want {
		t.Fatalf("behind %s: Add of %d events from %d on: %d, not %d", short(w.m.docs), len(b.Events), b.Seq, e, want)
	}
	return e
}

// added puts a batch in that is to be taken.
func (w both) added(t *testing.T, b api.Batch) {
	t.Helper()
	if e := w.add(t, b); e != api.OK {
		t.Fatalf("behind %s: Add of %d events from %d on: %d", short(w.m.docs), len(b.Events), b.Seq, e)
	}
}

// refused puts a batch in that is to be refused so, and leaves all as it was.
func (w both) refused(t *testing.T, b api.Batch, e api.Errno) {
	t.Helper()
	if x := w.x.Add(b); x != e {
		t.Fatalf("behind %s: Add of %d events from %d on: %d, not %d", short(w.m.docs), len(b.Events), b.Seq, x, e)
	}
	w.check(t)
}

// textsAbout are texts to ask for: terms, what is just below them and above, their beginnings, longer ones; and others.
func textsAbout(terms []string) []string {
	texts := []string{"", "\x00", ":", "a", "a:", "a:b", "ab", "m", "msg", "msg:", "msg:a", "msg:DISK", "msg:disk full", "Msg:disk", "zz:zz", "\x7f", "\x80", "\xff", xs(65), xs(66), strings.Repeat("\xff", 5000)}
	for i, s := range terms {
		if len(terms) > 40 && i > 5 && i < len(terms)-5 && i%16 > 0 {
			continue
		}
		ahead, last := s[:len(s)-1], s[len(s)-1]
		texts = append(texts, s, ahead, s+"\x00", s+"x", s+"\xff", ahead+string([]byte{last + 1}), ahead+string([]byte{last - 1}), ahead+string([]byte{last - 1})+"\xff", s[:len(s)/2], strings.ToUpper(s), s[1:], s[:strings.Index(s, ":")+1])
	}
	slices.Sort(texts)
	return slices.Compact(texts)
}

// checkDocs holds what an index tells of docs against the model.
func (w both) checkDocs(t *testing.T) {
	t.Helper()
	x, l := w.x, w.m.docs
	if x.Len() != len(l) || x.Size() != w.m.size() || !sameDocs(x.Docs(), l) {
		t.Fatalf("of %s: %d, of the size %d, %s", short(l), x.Len(), x.Size(), short(x.Docs()))
	}
	a, b, ok := x.Times()
	if low, high := w.m.times(); a != low || b != high || ok != (len(l) > 0) {
		t.Fatalf("of %s: Times: %d, %d, %v", short(l), a, b, ok)
	}
	a, b = x.Seqs()
	if first, last := w.m.seqs(); a != first || b != last {
		t.Fatalf("of %s: Seqs: %d, %d", short(l), a, b)
	}
	for i, want := range l {
		if d, e := x.Doc(i); e != api.OK || !sameDocs([]api.Doc{d}, []api.Doc{want}) {
			t.Fatalf("of %s: Doc(%d): %v, %d", short(l), i, d, e)
		}
	}
	for _, i := range []int{-1, -2, -len(l) - 1, math.MinInt, math.MinInt + 1, len(l), len(l) + 1, 2*len(l) + 1, 1 << 16, 1 << 32, math.MaxInt - 1, math.MaxInt} {
		if d, e := x.Doc(i); e != api.ErrRange || d.Seq != 0 || d.E.At != 0 || len(d.E.Fields) > 0 {
			t.Fatalf("of %s: Doc(%d): %v, %d", short(l), i, d, e)
		}
	}
}

// checkTerms holds what an index tells of terms against the model.
func (w both) checkTerms(t *testing.T) {
	t.Helper()
	terms := w.m.terms()
	if l := w.x.Terms(); !slices.Equal(l, terms) {
		t.Fatalf("of %s: Terms: %.200q, not %.200q", short(w.m.docs), l, terms)
	}
	for _, s := range textsAbout(terms) {
		for _, c := range []struct {
			of        string
			got, want []api.Post
		}{{"Posts", w.x.Posts(s), w.m.posts(s)}, {"Prefix", w.x.Prefix(s), w.m.prefix(s)}} {
			if !samePosts(c.got, c.want) {
				t.Fatalf("of %s: %s of %.70q: %.200v, not %.200v", short(w.m.docs), c.of, s, c.got, c.want)
			}
			if e := posting.Check(c.got); e != api.OK {
				t.Fatalf("of %s: %s of %.70q is a row that may not be: %.200v", short(w.m.docs), c.of, s, c.got)
			}
		}
	}
}

// check holds all that an index tells against the model.
func (w both) check(t *testing.T) {
	t.Helper()
	w.checkDocs(t)
	w.checkTerms(t)
}

// known is an index of few docs.
func known(t *testing.T) both {
	t.Helper()
	w := start()
	w.added(t, batch(5, of(70, "msg", "disk full disk", "host", "disk"), of(-10, "msg", "ok")))
	w.added(t, batch(7, of(50, "msg", "Dis", "msg", "disk")))
	return w
}

func TestP14_1New(t *testing.T) {
	start().check(t)
	if New() == nil || New() == New() {
		t.Error("New is none, or an old one")
	}
}

func TestP14_1First(t *testing.T) {
	for _, seq := range []int{1, 2, 7, 127, 128, 1 << 16, 1<<32 + 1, 1<<40 - 63} {
		for _, n := range []int{1, 2, 63, 64} {
			w := start()
			w.added(t, batch(seq, bare(n)...))
			w.check(t)
			if first, last := w.x.Seqs(); first != seq || last != seq+n-1 || w.x.Len() != n {
				t.Errorf("%d docs from %d on: %d to %d", n, seq, first, last)
			}
		}
	}
	for _, c := range []api.Batch{batch(1<<40, of(0)), batch(1<<40-1, of(0)), batch(1<<40-1, bare(2)...), batch(1, sized(65536)), batch(1, sized(1), sized(65520)), batch(2, slices.Repeat([]api.Event{sized(1024)}, 64)...), batch(3, alike(16, "a", "")), batch(4, alike(16, strings.Repeat("n", 32), xs(4000)))} {
		w := start()
		w.added(t, c)
		w.check(t)
	}
}

func TestP14_1Next(t *testing.T) {
	w := with(t, 5, 64, of(3, "msg", "a"), of(2, "msg", "b"), of(1, "msg", "c"))
	for _, seq := range []int{7, 6, 5, 4, 1, 2, 9, 10, 11, 70, 1 << 16, 1<<32 + 8, 1<<40 - 63} {
		for _, n := range []int{1, 2, 64} {
			w.refused(t, batch(seq, bare(n)...), api.ErrMem)
		}
	}
	w.refused(t, batch(1<<40, of(0, "msg", "a")), api.ErrMem)
	for seq := 8; w.x.Len() < 400; seq = w.x.Len() + 5 {
		n := 1 + (seq*7)%64
		w.refused(t, batch(seq-1, bare(n)...), api.ErrMem)
		w.refused(t, batch(seq+1, bare(n)...), api.ErrMem)
		w.added(t, batch(seq, slices.Repeat([]api.Event{of(seq, "n", fmt.Sprint(seq))}, n)...))
	}
	w.check(t)
}

func TestP14_1ToTheLastNumber(t *testing.T) {
	w := start()
	w.added(t, batch(1<<40-3, of(0, "a", "x")))
	w.refused(t, batch(1<<40-2, bare(4)...), api.ErrRange)
	w.added(t, batch(1<<40-2, bare(2)...))
	w.refused(t, batch(1<<40, bare(2)...), api.ErrRange)
	w.added(t, batch(1<<40, of(1, "a", "y")))
	w.refused(t, batch(1<<40+1, of(1)), api.ErrRange) // it is the next one, but may not be
	w.refused(t, batch(1<<40, of(1)), api.ErrMem)
	w.refused(t, batch(1, of(1)), api.ErrMem)
	if _, last := w.x.Seqs(); last != 1<<40 || w.x.Len() != 4 {
		t.Error(last, w.x.Len())
	}
}

// A batch that may not be is refused so, whatever else is wrong with it.
func TestP14_1BadBatches(t *testing.T) {
	for _, w := range []both{start(), known(t), with(t, 1<<40-1, 1, of(0, "a", "b")), with(t, 1, 3, bare(10)...)} {
		_, last := w.m.seqs()
		for _, seq := range []int{last + 1, last + 9, max(last, 1), 1} {
			for i, c := range badBatches(min(seq, 1<<40)) {
				if x := w.x.Add(copyOfBatch(c.b)); x != c.x {
					t.Fatalf("behind %s: Add of the bad batch %d at %d: %d, not %d", short(w.m.docs), i, seq, x, c.x)
				}
				w.checkDocs(t)
			}
		}
		w.check(t)
	}
}

// full is an index with all docs that there may be but n.
func full(t *testing.T, seq, n int) both {
	t.Helper()
	w := start()
	for left := 65536 - n; left > 0; {
		l := bare(min(left, 64))
		l[0].Fields = []api.Field{{Name: "msg", Text: fmt.Sprint("a ", left/64)}}
		w.added(t, batch(seq, l...))
		seq += len(l)
		left -= len(l)
	}
	return w
}

func TestP14_1MaxDocs(t *testing.T) {
	for _, left := range []int{0, 1, 5, 63} {
		w := full(t, 9, left)
		next := 9 + 65536 - left
		for _, n := range []int{left + 1, 64} {
			if e := w.x.Add(batch(next, bare(n)...)); e != api.ErrMany {
				t.Fatalf("Add of %d where %d may be: %d", n, left, e)
			}
		}
		for _, c := range []badBatch{ // which error is told, where more docs than may be would be there, too
			{batch(next-1, bare(64)...), api.ErrMem}, {batch(next+1, bare(64)...), api.ErrMem}, {batch(1, bare(64)...), api.ErrMem}, {batch(next, append(bare(63), of(0, "A", ""))...), api.ErrEvent},
			{batch(next, append(bare(63), of(0, "a", xs(4097)))...), api.ErrLong}, {batch(0, bare(64)...), api.ErrRange}, {batch(1<<40, bare(64)...), api.ErrRange}, {batch(next, append(bare(63), sized(65000))...), api.ErrLong}, {batch(next), api.ErrArg},
		} {
			if e := w.x.Add(c.b); e != c.x {
				t.Fatalf("Add of %d from %d on, where %d may be: %d, not %d", len(c.b.Events), c.b.Seq, left, e, c.x)
			}
		}
		if w.x.Len() != 65536-left || w.x.Size() != w.m.size() || !samePosts(w.x.Posts("msg:a"), w.m.posts("msg:a")) {
			t.Fatal(w.x.Len(), w.x.Size(), w.m.size())
		}
		if left > 0 {
			w.added(t, batch(next, slices.Repeat([]api.Event{of(-9, "msg", "end")}, left)...))
		}
		if w.add(t, batch(next+left, of(-10, "msg", "end"))) != api.ErrMany || !samePosts(w.x.Posts("msg:end"), w.m.posts("msg:end")) {
			t.Fatal("one more than may be")
		}
		if low, _, _ := w.x.Times(); w.x.Len() != 65536 || low < -9 {
			t.Fatal(w.x.Len(), low)
		}
	}
}

func TestP14_1MaxDocsWhole(t *testing.T) {
	w := full(t, 1, 0)
	w.checkDocs(t)
	if !slices.Equal(w.x.Terms(), w.m.terms()) {
		t.Error("Terms")
	}
	for _, s := range []string{"", "msg:", "msg:a", "msg:1", "msg:1024", "msg:x"} {
		p, q := w.x.Posts(s), w.x.Prefix(s)
		if !samePosts(p, w.m.posts(s)) || !samePosts(q, w.m.prefix(s)) || posting.Check(p) != api.OK || posting.Check(q) != api.OK {
			t.Errorf("of %q: %.100v, %.100v", s, p, q)
		}
	}
	w.x.Clear()
	w.m = &plain{}
	w.check(t)
	w.added(t, batch(3, of(0, "msg", "a")))
	w.check(t)
}

// randomAdd is a batch that may be taken by an index, or may not.
func randomAdd(r *rand.Rand, m *plain) api.Batch {
	_, last := m.seqs()
	b := batch(last+1, randomEvents(r, 1<<r.Intn(5))...)
	switch {
	case len(m.docs) == 0 && r.Intn(4) > 0:
		b.Seq = 1 + r.Intn(1<<r.Intn(40))
	case r.Intn(4) == 0:
		b.Seq = []int{last, last + 2, last - 1, 1, 0, 1 << 40, last + len(b.Events)}[r.Intn(7)]
	case r.Intn(8) == 0:
		l := badBatches(max(b.Seq, 1))
		return l[r.Intn(len(l))].b
	}
	return b
}

// Some indexes are added to, cleared and forked by chance, each one beside its model.
func TestP14_1Random(t *testing.T) {
	r := rand.New(rand.NewSource(1))
	told := map[api.Errno]int{}
	all := []both{start(), start()}
	for i := range 4000 {
		k := r.Intn(len(all))
		switch w := all[k]; {
		case r.Intn(20) == 0:
			w.x.Clear()
			*w.m = plain{}
		case r.Intn(20) == 0:
			all[r.Intn(len(all))] = both{w.x.Fork(), w.m.fork()}
		case r.Intn(20) == 0 && len(all) < 5:
			all = append(all, both{w.x.Fork(), w.m.fork()})
		default:
			told[w.add(t, randomAdd(r, w.m))]++
		}
		if i%20 == 0 {
			for _, w := range all {
				w.check(t)
			}
		}
	}
	for _, e := range []api.Errno{api.OK, api.ErrMem, api.ErrRange, api.ErrEvent, api.ErrLong, api.ErrMany, api.ErrArg} {
		if told[e] < 10 {
			t.Errorf("%d is told %d times", e, told[e])
		}
	}
	if told[api.OK] < 1500 || told[api.ErrMem] < 300 {
		t.Error(told)
	}
}
