package event

import (
	"math"
	"math/rand"
	"slices"
	"strings"
	"testing"

	"loggia/api"
	"loggia/token"
)

// at is a term, and where it stands.
func at(s string, pos ...int) Term { return Term{S: s, Pos: pos} }

// numbersFrom are n numbers from a first one on, each so much above the one ahead.
func numbersFrom(first, n, step int) []int {
	var l []int
	for i := range n {
		l = append(l, first+i*step)
	}
	return l
}

func TestP10_5Terms(t *testing.T) {
	for _, c := range []struct {
		e api.Event
		l []Term
	}{
		{api.Event{}, nil}, {api.Event{Fields: []api.Field{}}, nil}, {of(5, "a", ""), nil}, {of(5, "a", " -!", "b", "\xff"), nil},
		{of(0, "msg", "a b a", "msg", "b"), []Term{at("msg:a", 0, 2), at("msg:b", 1, 67)}},
		{of(-3, "msg", "Disk full, disk", "host", "a"), []Term{at("host:a", 67), at("msg:disk", 0, 2), at("msg:full", 1)}},
		{of(0, "a", "x"), []Term{at("a:x", 0)}}, {of(0, "a", "X x X"), []Term{at("a:x", 0, 1, 2)}}, {of(0, "a", "c b a"), []Term{at("a:a", 2), at("a:b", 1), at("a:c", 0)}},
		{of(0, "a", "x", "a", "x"), []Term{at("a:x", 0, 65)}}, {of(0, "a", "x", "b", "x"), []Term{at("a:x", 0), at("b:x", 65)}}, {of(0, "b", "x", "a", "x"), []Term{at("a:x", 65), at("b:x", 0)}}, // one word in two fields
		{of(0, "b", "x", "a", "y", "b", "x y"), []Term{at("a:y", 65), at("b:x", 0, 130), at("b:y", 131)}},
		{of(0, "a", "", "b", "x"), []Term{at("b:x", 64)}}, {of(0, "a", "--", "b", "", "c", "x y", "d", "z"), []Term{at("c:x", 128), at("c:y", 129), at("d:z", 194)}}, // fields without a word
		{of(0, "a", "x", "a0", "x", "a_", "x", "aa", "x"), []Term{at("a0:x", 65), at("a:x", 0), at("a_:x", 130), at("aa:x", 195)}}, // names that begin alike: a colon stands behind the digits, and ahead of the others
		{of(0, "a", "xx x xx0 xé xa"), []Term{at("a:x", 1), at("a:xa", 4), at("a:xx", 0), at("a:xx0", 2), at("a:xé", 3)}},
		{of(0, "a", "É é Ä"), []Term{at("a:ä", 2), at("a:é", 0, 1)}}, {of(0, "a", "a:x b_c"), []Term{at("a:a", 0), at("a:b", 2), at("a:c", 3), at("a:x", 1)}},
		{of(0, strings.Repeat("n", 32), xs(40)+" "+xs(33)), []Term{at(strings.Repeat("n", 32)+":"+xs(32), 0, 1)}}, // the longest term; what stands behind 32 bytes is no word
		{of(math.MaxInt, "a", "b\x00c\xffd"), []Term{at("a:b", 0), at("a:c", 1), at("a:d", 2)}},
		{many(16, "a", "x"), []Term{at("a:x", numbersFrom(0, 16, 65)...)}}, {many(16, "a", ""), nil},
		{many(2, "a", strings.Repeat("x ", 2048)), []Term{at("a:x", append(numbersFrom(0, 2048, 1), numbersFrom(2048+64, 2048, 1)...)...)}},
	} {
		was := copyOf(c.e)
		if l := Terms(c.e); !sameTerms(l, c.l) || !sameTerms(plainTerms(c.e), c.l) {
			t.Errorf("Terms of %.80q: %.100v, not %.100v", c.e.Fields, l, c.l)
		}
		if !plainSame(was, c.e) {
			t.Errorf("Terms changes what is handed in: %.80q", was.Fields)
		}
	}
}

func TestP10_5TermsOfBad(t *testing.T) {
	for i, c := range badEvents() {
		if l := Terms(c.e); len(l) != 0 {
			t.Errorf("Terms of the bad event %d: %.100v", i, l)
		}
	}
	for _, e := range []api.Event{of(0, "a", "x", "B", "y"), of(0, "a", "x", "b", xs(4097)), many(17, "a", "x"), of(0, "A", "x", "b", "y")} {
		if l := Terms(e); len(l) != 0 {
			t.Errorf("Terms of an event that may not be: %.100v", l)
		}
	}
}

func TestP10_5TermsByTheWords(t *testing.T) {
	r := rand.New(rand.NewSource(10))
	for range 6000 {
		e := randomEvent(r)
		if r.Intn(4) == 0 {
			e = turned(r, e)
		}
		if l := Terms(e); !sameTerms(l, plainTerms(e)) {
			t.Fatalf("Terms of %.200q: %.300v, not %.300v", e.Fields, l, plainTerms(e))
		}
	}
	for _, e := range goodEvents() {
		if l := Terms(e); !sameTerms(l, plainTerms(e)) {
			t.Fatalf("Terms of %.200q: %.300v", e.Fields, l)
		}
	}
}

func TestP10_5TermsAreTerms(t *testing.T) {
	r := rand.New(rand.NewSource(11))
	for range 500 {
		e := randomEvent(r)
		ahead := ""
		for _, x := range Terms(e) {
			name, _, ok := token.Split(x.S)
			if !ok || x.S <= ahead || !slices.ContainsFunc(e.Fields, func(f api.Field) bool { return f.Name == name }) {
				t.Fatalf("Terms of %.200q: %q behind %q", e.Fields, x.S, ahead)
			}
			ahead = x.S
		}
	}
}

func TestP10_5TermsAreNewMemory(t *testing.T) {
	e := of(0, "a", "x y x", "b", "x y")
	want := []Term{at("a:x", 0, 2), at("a:y", 1), at("b:x", 67), at("b:y", 68)}
	one, other := Terms(e), Terms(e)
	for i := range one { // no list reaches into another one
		one[i].Pos = append(one[i].Pos, 7)
		one[i].Pos[0] = -1
	}
	e.Fields[0].Text = "turned"
	if !sameTerms(one, []Term{at("a:x", -1, 2, 7), at("a:y", -1, 7), at("b:x", -1, 7), at("b:y", -1, 7)}) {
		t.Error("lists of one answer share memory: ", one)
	}
	if !sameTerms(other, want) {
		t.Error("an answer became ", other)
	}
}

// checkApart tells of an event whether each place is that of one word, and words of two fields are far from one another.
func checkApart(t *testing.T, e api.Event) {
	t.Helper()
	words := map[int]string{}
	for _, x := range Terms(e) {
		for i, p := range x.Pos {
			if _, ok := words[p]; ok || i > 0 && p <= x.Pos[i-1] {
				t.Fatalf("Terms of %.200q: %d twice", e.Fields, p)
			}
			words[p] = x.S
		}
	}
	var all []int
	for p := range words {
		all = append(all, p)
	}
	slices.Sort(all)
	last := math.MinInt32 // of the field ahead
	for _, f := range e.Fields {
		l := token.Words(f.Text)
		if len(l) == 0 {
			continue
		}
		if len(all) < len(l) || all[0] < 0 || all[0]-last < 64 {
			t.Fatalf("Terms of %.200q: the places of a field begin with %v, behind %d", e.Fields, all[:min(len(all), 1)], last)
		}
		for i, w := range l {
			if all[i] != all[0]+i || words[all[i]] != f.Name+":"+w {
				t.Fatalf("Terms of %.200q: %q at %d, not %q", e.Fields, words[all[i]], all[i], f.Name+":"+w)
			}
		}
		last, all = all[len(l)-1], all[len(l):]
	}
	if len(all) > 0 {
		t.Fatalf("Terms of %.200q: more places, %v", e.Fields, all)
	}
}

func TestP10_7Apart(t *testing.T) {
	for _, e := range goodEvents() {
		checkApart(t, e)
	}
	r := rand.New(rand.NewSource(12))
	for range 3000 {
		checkApart(t, randomEvent(r))
	}
}
