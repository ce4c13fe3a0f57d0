package segment

import (
	"math"
	"math/rand"
	"slices"
	"strings"
	"testing"

	"loggia/api"
)

// termsAbout are texts to ask for: terms, what is just below them and above, their beginnings, longer ones; and others.
func termsAbout(l []found) []string {
	texts := []string{"", "\x00", ":", "a", "a:", "a:b", "ab", "m", "msg", "msg:", "msg:a", "msg:DISK", "msg:disk full", "Msg:disk", "n:0", "zz:zz", "\x7f", "\x80", "\xff", xs(65), xs(66), strings.Repeat("\xff", 5000)}
	for i, f := range l {
		if len(l) > 60 && i > 5 && i < len(l)-5 && i%16 > 0 {
			continue
		}
		last := f.term[len(f.term)-1]
		ahead := f.term[:len(f.term)-1]
		texts = append(texts, f.term, ahead, f.term+"\x00", f.term+"x", f.term+"\xff", ahead+string([]byte{last + 1}), ahead+string([]byte{last - 1}), ahead+string([]byte{last - 1})+"\xff", f.term[:len(f.term)/2], strings.ToUpper(f.term), f.term[1:])
	}
	return texts
}

// checkTerm holds what a segment answers of a text against the chapter's words.
func checkTerm(t *testing.T, s *Segment, l []found, term string) {
	t.Helper()
	var want []api.Post
	var terms, begun []string
	for _, f := range l {
		terms = append(terms, f.term)
		if f.term == term {
			want = f.posts
		}
		if strings.HasPrefix(f.term, term) {
			begun = append(begun, f.term)
		}
	}
	if p := s.Posts(term); !samePosts(p, want) {
		t.Fatalf("of %.200q: Posts of %.70q: %v, not %v", terms, term, p, want)
	}
	if l := s.Prefix(term); !slices.Equal(l, begun) {
		t.Fatalf("of %.200q: Prefix of %.70q: %.200q, not %.200q", terms, term, l, begun)
	}
	m := plainRoom(len(l))
	with, filter := plainFilter(m, append(terms, term)...), plainFilter(m, terms...)
	if s.May(term) != (with == filter) { // all of its bits are there without it
		t.Fatalf("of %.200q: May of %.70q: %v", terms, term, s.May(term))
	}
}

// checkDocs holds what a segment answers of docs and times against the chapter's words.
func checkDocs(t *testing.T, s *Segment, l []api.Doc) {
	t.Helper()
	if s.Len() != len(l) || !plainSame(s.Docs(), l) {
		t.Fatalf("of %s: Len is %d, Docs %s", short(l), s.Len(), short(s.Docs()))
	}
	for i, want := range l {
		if d, ok := s.Doc(i); !ok || !plainSame([]api.Doc{d}, []api.Doc{want}) {
			t.Fatalf("of %s: Doc(%d): %v, %v", short(l), i, d, ok)
		}
	}
	for _, i := range []int{-1, -2, -16, -len(l), math.MinInt, math.MinInt + 1, len(l), len(l) + 1, len(l) + 16, 1 << 16, 1 << 32, math.MaxInt - 1, math.MaxInt} {
		if d, ok := s.Doc(i); ok || d.Seq != 0 || d.E.At != 0 || len(d.E.Fields) > 0 {
			t.Fatalf("of %s: Doc(%d): %v, %v", short(l), i, d, ok)
		}
	}
	want := api.Part{Low: math.MaxInt, High: math.MinInt, First: l[0].Seq, Last: l[len(l)-1].Seq, N: len(l)}
	for _, d := range l {
		want.Low, want.High = min(want.Low, d.E.At), max(want.High, d.E.At)
	}
	if p := s.Part(); p != want {
		t.Fatalf("of %s: Part: %v, not %v", short(l), p, want)
	}
}

// checkRange holds Range against the chapter's words.
func checkRange(t *testing.T, s *Segment, l []api.Doc, from, to int) {
	t.Helper()
	var want []int
	for i := 0; i < len(l); i++ {
		if at := l[i].E.At; at >= from && at <= to {
			want = append(want, i)
		}
	}
	if r := s.Range(from, to); !slices.Equal(r, want) {
		t.Fatalf("of %s: Range(%d, %d): %v, not %v", short(l), from, to, r, want)
	}
}

// checkAll holds all that a segment answers against the docs that it has.
func checkAll(t *testing.T, s *Segment, l []api.Doc) {
	t.Helper()
	checkDocs(t, s, l)
	terms := plainFound(l)
	if s.Terms() != len(terms) {
		t.Fatalf("of %s: %d terms, not %d", short(l), s.Terms(), len(terms))
	}
	for _, term := range termsAbout(terms) {
		checkTerm(t, s, terms, term)
	}
	times := []int{math.MinInt, math.MinInt + 1, -1, 0, 1, math.MaxInt - 1, math.MaxInt}
	for _, d := range l[:min(len(l), 5)] {
		times = append(times, d.E.At-1, d.E.At, d.E.At+1) // it may go round
	}
	for _, from := range times {
		for _, to := range times {
			checkRange(t, s, l, from, to)
		}
	}
}

func TestP13_2Has(t *testing.T) {
	for _, l := range goodRows() {
		s := opened(t, plainBytes(l))
		for range 2 { // asking changes nothing
			checkAll(t, s, l)
		}
	}
}

func TestP13_2HasKnown(t *testing.T) {
	l := []api.Doc{doc(3, 50, "msg", "disk full", "host", "web"), doc(4, -10, "msg", "disk ok disk", "host", "web"), doc(9, 70, "msg", "", "host", "Web")}
	s := opened(t, encoded(t, l))
	for term, want := range map[string][]api.Post{
		"host:web": {{Doc: 0, Pos: []int{66}}, {Doc: 1, Pos: []int{67}}, {Doc: 2, Pos: []int{64}}}, "msg:disk": {{Doc: 0, Pos: []int{0}}, {Doc: 1, Pos: []int{0, 2}}}, "msg:full": {{Doc: 0, Pos: []int{1}}}, "msg:ok": {{Doc: 1, Pos: []int{1}}},
		"": nil, "a": nil, "host:we": nil, "host:webb": nil, "host:Web": nil, "host:disk": nil, "msg:a": nil, "msg:e": nil, "msg:oka": nil, "zone:a": nil, "msg:": nil, "msg": nil, "disk": nil,
	} {
		if p := s.Posts(term); !samePosts(p, want) {
			t.Errorf("Posts of %q: %v", term, p)
		}
		if want != nil && !s.May(term) {
			t.Errorf("May of %q", term)
		}
	}
	all := []string{"host:web", "msg:disk", "msg:full", "msg:ok"}
	for p, want := range map[string][]string{"": all, "h": all[:1], "host:": all[:1], "host:web": all[:1], "host:webb": nil, "i": nil, "m": all[1:], "msg:": all[1:], "msg:d": all[1:2], "msg:e": nil, "msg:f": all[2:3], "msg:ok": all[3:], "msg:okk": nil, "z": nil, "A": nil, "\xff": nil} {
		if l := s.Prefix(p); !slices.Equal(l, want) {
			t.Errorf("Prefix of %q: %q", p, l)
		}
	}
	for _, c := range []struct {
		from, to int
		want     []int
	}{
		{-10, 50, []int{0, 1}}, {-10, 49, []int{1}}, {-9, 50, []int{0}}, {50, 50, []int{0}}, {-10, -10, []int{1}}, {70, 70, []int{2}}, {51, 70, []int{2}}, {51, 69, nil}, {0, 0, nil}, {71, math.MaxInt, nil}, {math.MinInt, -11, nil}, {50, 70, []int{0, 2}},
		{math.MinInt, math.MaxInt, []int{0, 1, 2}}, {math.MaxInt, math.MinInt, nil}, {70, -10, nil}, {51, 50, nil}, {math.MinInt, math.MinInt, nil}, {math.MaxInt, math.MaxInt, nil},
	} {
		if r := s.Range(c.from, c.to); !slices.Equal(r, c.want) {
			t.Errorf("Range(%d, %d): %v", c.from, c.to, r)
		}
	}
	if s.Terms() != 4 || s.Len() != 3 || s.Part() != (api.Part{Low: -10, High: 70, First: 3, Last: 9, N: 3}) {
		t.Error(s.Terms(), s.Len(), s.Part())
	}
}

func TestP13_2MayOfOthers(t *testing.T) {
	s := opened(t, plainBytes(spoken(numbered(700))))
	wrong := 0
	for i := range 20000 {
		if s.May("msg:other" + strings.Repeat("x", i%7) + string(rune('a'+i%26)) + string([]byte{byte(i), byte(i >> 8)})) {
			wrong++
		}
	}
	if wrong == 0 || wrong > 1000 { // by the filter alone: not by the dictionary
		t.Errorf("%d of 20000 may be there", wrong)
	}
}

func TestP13_2RangeOfEnds(t *testing.T) {
	times := []int{math.MaxInt, math.MinInt, 0, math.MinInt, math.MaxInt, -1}
	s := opened(t, encoded(t, timed(times...)))
	for _, from := range oddTimes {
		for _, to := range oddTimes {
			checkRange(t, s, timed(times...), from, to)
		}
	}
	if r := s.Range(math.MinInt, math.MinInt); !slices.Equal(r, []int{1, 3}) {
		t.Error(r)
	}
	if r := s.Range(math.MaxInt, math.MaxInt); !slices.Equal(r, []int{0, 4}) {
		t.Error(r)
	}
	if p := s.Part(); p.Low != math.MinInt || p.High != math.MaxInt {
		t.Error(p)
	}
}

func TestP13_2OfNobodys(t *testing.T) {
	none := Segment{}
	for _, s := range []*Segment{nil, {}, new(Segment), &none} {
		for _, i := range []int{0, 1, -1, 16, math.MinInt, math.MaxInt} {
			if d, ok := s.Doc(i); ok || d.Seq != 0 || d.E.At != 0 || len(d.E.Fields) > 0 {
				t.Errorf("Doc(%d): %v, %v", i, d, ok)
			}
			for _, to := range []int{0, 1, math.MinInt, math.MaxInt} {
				if r := s.Range(i, to); len(r) > 0 {
					t.Errorf("Range(%d, %d): %v", i, to, r)
				}
			}
		}
		for _, term := range []string{"", "a", "msg:a", "\xff", xs(70)} {
			if s.May(term) || len(s.Posts(term)) > 0 || len(s.Prefix(term)) > 0 {
				t.Errorf("it has %q", term)
			}
		}
		if s.Len() != 0 || len(s.Docs()) > 0 || s.Part() != (api.Part{}) || s.Terms() != 0 {
			t.Error(s.Len(), s.Docs(), s.Part(), s.Terms())
		}
	}
}

func TestP13_3ThereAndBack(t *testing.T) {
	for _, l := range goodRows() {
		b := encoded(t, l)
		s := opened(t, b)
		if docs := s.Docs(); !plainSame(docs, l) || encoded(t, docs) != b {
			t.Fatalf("%s became %s", short(l), short(docs))
		}
	}
}

// Whatever is opened, its docs encoded, is what it was: also of bytes that were made otherwise.
func TestP13_3BackAndThere(t *testing.T) {
	r := rand.New(rand.NewSource(4))
	good := 0
	for i := range 4000 {
		sections := plainTold(randomRow(r, 1+i%20)).sections()
		docs := []byte(sections[0])
		if r.Intn(2) == 0 {
			docs[r.Intn(len(docs))] ^= 32 // perhaps a letter in another case, which has the same terms
		}
		sections[0] = string(docs)
		b := bytesOf(sections...)
		s, e := Open([]byte(b))
		if e != api.OK {
			continue
		}
		good++
		if again := encoded(t, s.Docs()); again != b {
			t.Fatalf("%.200q became %.200q", b, again)
		}
	}
	if good < 2050 || good > 3900 {
		t.Errorf("%d are good", good)
	}
}

func TestP13_4Found(t *testing.T) {
	r := rand.New(rand.NewSource(5))
	rows := goodRows()
	for i := range 100 {
		rows = append(rows, randomRow(r, 1+2*i))
	}
	for _, l := range rows {
		s := opened(t, encoded(t, l))
		places := map[int]map[string][]int{} // of each doc, by terms, as the posts tell
		for i := range l {
			places[i] = map[string][]int{}
		}
		for _, term := range s.Prefix("") {
			if !s.May(term) {
				t.Fatalf("May of %q", term)
			}
			for _, p := range s.Posts(term) {
				if places[p.Doc] == nil || places[p.Doc][term] != nil {
					t.Fatalf("of %s: a post of %q in %d", short(l), term, p.Doc)
				}
				places[p.Doc][term] = p.Pos
			}
		}
		for i, d := range l {
			own := plainFound([]api.Doc{d})
			for _, f := range own {
				if !slices.Equal(places[i][f.term], f.posts[0].Pos) {
					t.Fatalf("of %s: %q in %d: %v, not %v", short(l), f.term, i, places[i][f.term], f.posts[0].Pos)
				}
			}
			if len(places[i]) != len(own) {
				t.Fatalf("of %s: %d terms in %d, not %d", short(l), len(places[i]), i, len(own))
			}
		}
	}
}

func TestP13_5BytesTurned(t *testing.T) {
	for _, l := range goodRows() {
		b := []byte(plainBytes(l))
		s, e := Open(b)
		if e != api.OK {
			t.Fatal(e)
		}
		for i := range b {
			b[i] ^= 0x55
		}
		checkAll(t, s, l)
		clear(b)
		checkAll(t, s, l)
	}
}

func TestP13_5RoomBehind(t *testing.T) {
	l := many(40)
	was := plainBytes(l)
	room := []byte(was + strings.Repeat("-", 50))
	s, e := Open(room[:len(was)])
	if e != api.OK || string(room) != was+strings.Repeat("-", 50) {
		t.Fatalf("%d", e)
	}
	copy(room, strings.Repeat("+", len(room)))
	checkAll(t, s, l)
}

// spoil turns all that a row's lists have, and what could stand behind them.
func spoil(l []api.Doc) {
	l = l[:cap(l)]
	for i := range l {
		fields := l[i].E.Fields[:cap(l[i].E.Fields)]
		for k := range fields {
			fields[k] = api.Field{Name: "spoilt", Text: "spoilt"}
		}
		l[i].Seq, l[i].E.At = -9, -9
	}
}

func TestRule4DocsTurned(t *testing.T) {
	for _, l := range [][]api.Doc{many(40), knownDocs()} {
		was := copyOfAll(l)
		b, e := Encode(l...)
		if e != api.OK || !plainSame(l, was) {
			t.Fatal(e)
		}
		spoil(l)
		if string(b) != plainBytes(was) {
			t.Error("Encode keeps what is handed in")
		}
		_ = append(b, xs(100)...)
		c, _ := Encode(was...)
		clear(c)
		if string(b) != plainBytes(was) {
			t.Error("two answers of Encode share memory")
		}
	}
}

func TestRule4AnswersTurned(t *testing.T) {
	for _, l := range [][]api.Doc{many(40), many(17), knownDocs(), {doc(1, 0, "a", "b", "c", "d")}} {
		s := opened(t, plainBytes(l))
		for range 2 {
			docs, other := s.Docs(), s.Docs()
			for i := range docs { // no two lists of an answer share any
				spoil(docs[i : i+1 : i+1])
				if !plainSame(docs[i+1:], l[i+1:]) {
					t.Fatal("docs share memory")
				}
			}
			spoil(docs)
			d, _ := s.Doc(0)
			spoil([]api.Doc{d})
			if !plainSame(other, l) {
				t.Fatal("answers of Docs share memory")
			}
			for _, term := range s.Prefix("") {
				one, two := s.Posts(term), s.Posts(term)
				for i := range one {
					pos := one[i].Pos[:cap(one[i].Pos)]
					for k := range pos {
						pos[k] = -9
					}
					one[i].Doc = -9
					if !samePosts(one[i+1:], two[i+1:]) {
						t.Fatal("posts share memory")
					}
				}
				if !samePosts(two, s.Posts(term)) || len(two) > 0 && two[0].Doc < 0 {
					t.Fatal("answers of Posts share memory")
				}
			}
			terms, places := s.Prefix(""), s.Range(math.MinInt, math.MaxInt)
			clear(terms[:cap(terms)])
			clear(places[:cap(places)])
			checkAll(t, s, l)
		}
	}
}

// Segments are apart: what the one is asked changes nothing of another one.
func TestRule5Apart(t *testing.T) {
	a, b := many(33), spoken("x y", "y")
	one, two, again := opened(t, plainBytes(a)), opened(t, plainBytes(b)), opened(t, plainBytes(a))
	copied := *one
	for range 2 {
		checkAll(t, one, a)
		checkAll(t, two, b)
		checkAll(t, again, a)
		checkAll(t, &copied, a)
	}
	if first := encoded(t, a); first != encoded(t, copyOfAll(a)) || first != encoded(t, one.Docs()) {
		t.Error("the same docs, encoded again, are other bytes")
	}
}
