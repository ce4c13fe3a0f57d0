package dict

import (
	"math"
	"math/rand"
	"slices"
	"strings"
	"testing"

	"loggia/api"
)

// textsAbout are texts to ask for: each term of some entries, what is just below it and above, its beginnings, longer ones; and others.
func textsAbout(l []api.Entry) []string {
	texts := []string{"", "\x00", "a", "ab", "m", "msg", "msg:", "msg:a", "msg:aaa", "n", "\x7f", "\x80", "\xff", strings.Repeat("\x00", 66), xs(64), xs(65), xs(66), xs(300), strings.Repeat("\xff", 65), strings.Repeat("\xff", 5000)}
	for i, e := range l {
		if len(l) > 60 && i%16 > 1 && i%16 < 15 {
			continue
		}
		last := e.Term[len(e.Term)-1]
		ahead := e.Term[:len(e.Term)-1]
		texts = append(texts, e.Term, ahead, e.Term+"\x00", e.Term+"\xff", e.Term+xs(66), ahead+string([]byte{last + 1}), ahead+string([]byte{last - 1}), ahead+string([]byte{last - 1})+"\xff", e.Term[:len(e.Term)/2])
	}
	return texts
}

// checkAsked holds what a dictionary answers of a text against the chapter's words.
func checkAsked(t *testing.T, d *Dict, l []api.Entry, s string) {
	t.Helper()
	wantEntry, want := plainGet(l, s)
	if e, ok := d.Get(s); e != wantEntry || ok != want {
		t.Fatalf("of %d entries, %.100v: Get of %.70q: %v, %v, not %v, %v", len(l), l[:min(len(l), 5)], s, e, ok, wantEntry, want)
	}
	if n := d.Floor(s); n != plainFloor(l, s) {
		t.Fatalf("of %d entries, %.100v: Floor of %.70q: %d, not %d", len(l), l[:min(len(l), 5)], s, n, plainFloor(l, s))
	}
	if some := d.Prefix(s); !slices.Equal(some, plainPrefix(l, s)) {
		t.Fatalf("of %d entries, %.100v: Prefix of %.70q: %.200v, not %.200v", len(l), l[:min(len(l), 5)], s, some, plainPrefix(l, s))
	}
}

// checkHas holds what a dictionary answers of places, and of all, against the chapter's words.
func checkHas(t *testing.T, d *Dict, l []api.Entry) {
	t.Helper()
	if d.Len() != len(l) || !slices.Equal(d.All(), l) {
		t.Fatalf("of %d entries, %.100v: Len is %d, All %.200v", len(l), l[:min(len(l), 5)], d.Len(), d.All())
	}
	for i, want := range l {
		if e, ok := d.At(i); e != want || !ok {
			t.Fatalf("of %d entries, %.100v: At(%d): %v, %v, not %v", len(l), l[:min(len(l), 5)], i, e, ok, want)
		}
	}
	for _, i := range []int{-1, -2, -15, -16, -17, math.MinInt, len(l), len(l) + 1, len(l) + 15, len(l) + 16, math.MaxInt} {
		if e, ok := d.At(i); e != (api.Entry{}) || ok {
			t.Fatalf("of %d entries: At(%d): %v, %v", len(l), i, e, ok)
		}
	}
}

func TestP11_2Has(t *testing.T) {
	for _, l := range goodEntries() {
		d := opened(t, plainBytes(l))
		for range 2 { // asking changes nothing
			checkHas(t, d, l)
		}
	}
}

func TestP11_2Asked(t *testing.T) {
	for _, l := range goodEntries() {
		d := opened(t, plainBytes(l))
		for _, s := range textsAbout(l) {
			checkAsked(t, d, l, s)
		}
		checkHas(t, d, l)
	}
}

func TestP11_2AskedAtRandom(t *testing.T) {
	r := rand.New(rand.NewSource(21))
	found, between := 0, 0
	for i := range 600 {
		l := randomEntries(r, 1+i%120)
		d := opened(t, plainBytes(l))
		for range 60 {
			s := randomTerm(r)
			s = s[:len(s)-r.Intn(min(len(s), 3))]
			checkAsked(t, d, l, s)
			if _, ok := d.Get(s); ok {
				found++
			} else if n := d.Floor(s); n > 0 && n < d.Len() {
				between++
			}
		}
	}
	if found < 1000 || between < 1000 {
		t.Errorf("%d found, %d between two", found, between)
	}
}

func TestP11_2Known(t *testing.T) {
	l := []api.Entry{at("a", 1, 2, 3), at("ab", 4, 5, 6), at("abc", 7, 8, 9), at("b\x80", 10, 11, 12), at("b\xff", 13, 14, 15)}
	d := opened(t, encoded(t, l))
	for _, c := range []struct {
		s     string
		place int // of the entry; -1: there is none
		floor int
		n     int // how many begin so
	}{
		{"", -1, 0, 5}, {"\x00", -1, 0, 0}, {"A", -1, 0, 0}, {"a", 0, 0, 3}, {"a\x00", -1, 1, 0}, {"aa", -1, 1, 0}, {"ab", 1, 1, 2}, {"abb", -1, 2, 0}, {"abc", 2, 2, 1}, {"abcd", -1, 3, 0}, {"abd", -1, 3, 0}, {"ac", -1, 3, 0},
		{"b", -1, 3, 2}, {"b\x7f", -1, 3, 0}, {"b\x80", 3, 3, 1}, {"b\x80\x00", -1, 4, 0}, {"b\xff", 4, 4, 1}, {"b\xff\xff", -1, 5, 0}, {"c", -1, 5, 0}, {"\xff", -1, 5, 0}, {xs(66), -1, 5, 0}, {"a" + xs(65), -1, 3, 0},
	} {
		e, ok := d.Get(c.s)
		if c.place < 0 && (ok || e != api.Entry{}) || c.place >= 0 && (!ok || e != l[c.place]) {
			t.Errorf("Get of %.20q: %v, %v", c.s, e, ok)
		}
		if d.Floor(c.s) != c.floor || len(d.Prefix(c.s)) != c.n {
			t.Errorf("%.20q: %d are below, %d begin so", c.s, d.Floor(c.s), len(d.Prefix(c.s)))
		}
	}
	if some := d.Prefix("ab"); !slices.Equal(some, l[1:3]) {
		t.Error(some)
	}
}

// Rows of beginnings that end, and begin, at each place about blocks' ends.
func TestP11_2PrefixOverBlocks(t *testing.T) {
	for _, n := range []int{15, 16, 17, 31, 32, 33, 34, 48, 49} {
		for from := 0; from < n; from++ {
			for _, to := range []int{from, from + 1, 15, 16, 17, 31, 32, 33, n} {
				if to < from || to > n {
					continue
				}
				var terms []string
				for i := range n {
					first := "a"
					switch {
					case i >= to:
						first = "c"
					case i >= from:
						first = "b"
					}
					terms = append(terms, first+string([]byte{byte(i)}))
				}
				l := of(terms...)
				d := opened(t, plainBytes(l))
				for s, want := range map[string][]api.Entry{"a": l[:from], "b": l[from:to], "c": l[to:], "": l, "d": nil, "A": nil} {
					if some := d.Prefix(s); !slices.Equal(some, want) {
						t.Fatalf("of %d entries, %d to %d: Prefix of %q: %v", n, from, to, s, some)
					}
				}
				if d.Floor("a") != 0 || d.Floor("b") != from || d.Floor("c") != to || d.Floor("d") != n {
					t.Fatalf("of %d entries, %d to %d: Floor: %d, %d", n, from, to, d.Floor("b"), d.Floor("c"))
				}
			}
		}
	}
}

func TestP11_2OfNone(t *testing.T) {
	d := opened(t, "\x00")
	checkHas(t, d, nil)
	for _, s := range textsAbout(nil) {
		checkAsked(t, d, nil, s)
	}
}

func TestP11_2OfNobodys(t *testing.T) {
	none := Dict{}
	for _, d := range []*Dict{nil, {}, new(Dict), &none} {
		checkHas(t, d, nil)
		for _, s := range textsAbout(of("a", "b")) {
			checkAsked(t, d, nil, s)
		}
		for i := range 40 {
			if e, ok := d.At(i); e != (api.Entry{}) || ok {
				t.Errorf("At(%d): %v, %v", i, e, ok)
			}
		}
	}
}

func TestP11_3ThereAndBack(t *testing.T) {
	for _, l := range goodEntries() {
		s := encoded(t, l)
		d := opened(t, s)
		if !slices.Equal(d.All(), l) || !slices.Equal(d.Prefix(""), l) {
			t.Fatalf("%.200v became %.200v", l, d.All())
		}
		if again := encoded(t, d.All()); again != s {
			t.Fatalf("%.60x became %.60x", s, again)
		}
	}
}

// Whatever is opened, all of it encoded, is what it was: also of bytes that were made otherwise.
func TestP11_3BackAndThere(t *testing.T) {
	r := rand.New(rand.NewSource(31))
	good := 0
	for i := range 40000 {
		b := []byte(plainBytes(randomEntries(r, 1+i%35)))
		for range r.Intn(3) {
			b[r.Intn(len(b))] += byte(r.Intn(5) - 2)
		}
		d, e := Open(b)
		if e != api.OK {
			continue
		}
		good++
		if s := encoded(t, d.All()); s != string(b) {
			t.Fatalf("%.200x became %.200x", b, s)
		}
	}
	if good < 10000 {
		t.Errorf("only %d are good", good)
	}
}

func TestP11_4BytesTurned(t *testing.T) {
	for _, l := range goodEntries() {
		b := []byte(plainBytes(l))
		d, e := Open(b)
		if e != api.OK {
			t.Fatal(e)
		}
		for _, c := range []byte{0, 0xff, 'a'} {
			for i := range b {
				b[i] = c
			}
			checkHas(t, d, l)
			for _, s := range textsAbout(l[:min(len(l), 3)]) {
				checkAsked(t, d, l, s)
			}
		}
	}
}

func TestP11_4RoomBehind(t *testing.T) {
	l := many(40)
	s := plainBytes(l)
	room := []byte(s + strings.Repeat("-", 50))
	d, e := Open(room[:len(s)])
	if e != api.OK || string(room) != s+strings.Repeat("-", 50) {
		t.Fatalf("%d; %q", e, room)
	}
	copy(room[len(s):], strings.Repeat("+", 50))
	checkHas(t, d, l)
}

func TestP11_4EntriesTurned(t *testing.T) {
	l := many(40)
	s := plainBytes(l)
	b, _ := Encode(l...)
	for i := range l {
		l[i] = at("turned", -1, -1, -1)
	}
	if string(b) != s {
		t.Errorf("%.60x", b)
	}
}

func TestP11_4AnswersTurned(t *testing.T) {
	l := many(40)
	d := opened(t, plainBytes(l))
	for _, answer := range []func() []api.Entry{d.All, func() []api.Entry { return d.Prefix("") }, func() []api.Entry { return d.Prefix("msg:aaa") }} {
		one, other := answer(), answer()
		was := slices.Clone(other)
		for i := range one {
			one[i] = at("turned", -1, -1, -1)
		}
		_ = append(one[:0], at("more", 0, 0, 0))
		if !slices.Equal(other, was) {
			t.Error("answers share memory")
		}
		checkHas(t, d, l)
	}
}

// Dictionaries are apart: what the one is asked changes nothing of another one.
func TestP11_4Apart(t *testing.T) {
	a, b := many(33), of("x", "y")
	one, two, again := opened(t, plainBytes(a)), opened(t, plainBytes(b)), opened(t, plainBytes(a))
	copied := *one
	for range 2 {
		checkHas(t, one, a)
		checkHas(t, two, b)
		checkHas(t, again, a)
		checkHas(t, &copied, a)
	}
}
