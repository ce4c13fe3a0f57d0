package token

import (
	"math"
	"math/rand"
	"slices"
	"strings"
	"testing"

	"loggia/api"
	"loggia/utf"
)

// long is 32 bytes: the longest word and the longest name.
const long = "abcdefghijklmnopqrstuvwxyz012345"

// tokens are a row of tokens, each at one place more than the one ahead, but where a number tells another place.
func tokens(row ...any) []api.Token {
	var l []api.Token
	pos := 0
	for _, x := range row {
		switch x := x.(type) {
		case int:
			pos = x
		case string:
			l = append(l, api.Token{Word: x, Pos: pos})
			pos++
		}
	}
	return l
}

func TestP7_1Words(t *testing.T) {
	for _, x := range []struct {
		text  string
		words []string
	}{
		{"", nil}, {" ", nil}, {"\t-!?_:", nil}, {"😀€", nil}, {"\ufffd", nil},
		{"a", []string{"a"}}, {"A", []string{"a"}}, {"7", []string{"7"}}, {"É", []string{"é"}}, {"Я", []string{"я"}}, {"Ѐ", []string{"ѐ"}}, {"Ω", []string{"ω"}}, {"ß", []string{"ß"}},
		{"Ab-c 12ß!", []string{"ab", "c", "12ß"}},
		{"GET /a/b?x=1 \xffOK", []string{"get", "a", "b", "x", "1", "ok"}},
		{"a a  A", []string{"a", "a", "a"}}, {" a ", []string{"a"}}, {"a_b", []string{"a", "b"}}, {"a:b", []string{"a", "b"}}, {"a\x00b", []string{"a", "b"}}, {"1.5e3", []string{"1", "5e3"}},
		{"a×b÷c", []string{"a", "b", "c"}}, {"a\u03a2b\u03cfc", []string{"a", "b", "c"}}, {"a\u0460b", []string{"a", "b"}}, {"ΣΑΣ ς", []string{"σασ", "ς"}},
		{"\xff", nil}, {"a\xffb", []string{"a", "b"}}, {"a\xc3", []string{"a"}}, {"\xc3\xc3\x89x", []string{"éx"}}, {"\x89a", []string{"a"}}, {"\xc3 \x89", nil}, {"\xc1\x81", nil}, {"a\xed\xa0\x80b", []string{"a", "b"}}, {"\xe2\x82a", []string{"a"}},
	} {
		if l := Words(x.text); !slices.Equal(l, x.words) {
			t.Errorf("Words of %q: %q, not %q", x.text, l, x.words)
		}
	}
}

func TestP7_1Bound(t *testing.T) {
	accents := strings.Repeat("É", 16)
	small := strings.Repeat("é", 16)
	for _, x := range []struct {
		text  string
		words []string
	}{
		{long[:31], []string{long[:31]}}, {long, []string{long}}, {long + "6", []string{long}}, {strings.ToUpper(long) + "6", []string{long}},
		{long[:30] + "É", []string{long[:30] + "é"}},
		{long[:31] + "É", []string{long[:31]}},
		{long[:31] + "Éb", []string{long[:31]}}, // what has room behind the cut stays out, too
		{long[:31] + "Яя0", []string{long[:31]}},
		{long + "É", []string{long}},
		{accents, []string{small}}, {accents + "É", []string{small}}, {accents + "a", []string{small}},
		{"A" + accents, []string{"a" + small[:30]}}, {"A" + accents + "b", []string{"a" + small[:30]}}, {"Ab" + accents, []string{"ab" + small[:30]}},
		{long + long + " b", []string{long, "b"}}, {"b " + long + "x", []string{"b", long}}, {long + "\xff" + long[1:], []string{long, long[1:]}},
		{strings.Repeat("x", 1<<20) + "-y", []string{strings.Repeat("x", 32), "y"}},
	} {
		if l := Words(x.text); !slices.Equal(l, x.words) {
			t.Errorf("Words of %.80q: %q, not %q", x.text, l, x.words)
		}
	}
}

func TestP7_1Runes(t *testing.T) {
	for r := range 1114112 {
		if r >= 55296 && r <= 57343 {
			continue
		}
		s := "a" + string(rune(r)) + "B"
		want := []string{"a", "b"}
		if rows.MatchString(string(rune(r))) {
			want = []string{strings.ToLower(s)}
		}
		if l := Words(s); !slices.Equal(l, want) {
			t.Fatalf("Words of %q: %q, not %q", s, l, want)
		}
	}
}

// Of other alphabets some lower ones take more or fewer bytes: these runes are no parts of words, and of those that are the lower one takes as many, so that a row of either is cut at one place.
func TestP7_1LowerBytes(t *testing.T) {
	for r := range 1114112 {
		if utf.IsWord(r) && len(utf.Encode(utf.Lower(r))) != len(utf.Encode(r)) {
			t.Fatalf("the lower one of %d takes other bytes", r)
		}
	}
	for _, s := range []string{"\u0130", "\u1e9e", "\u023a", "\u023e", "\u2126", "\u212a", "\u212b"} {
		if len(strings.ToLower(s)) == len(s) {
			t.Errorf("the lower one of %q takes as many bytes", s)
		}
		if l := Words("A" + s + "B"); !slices.Equal(l, []string{"a", "b"}) {
			t.Errorf("%q stands in a word: %q", s, l)
		}
		if l := Words(long[:31] + s + "B"); !slices.Equal(l, []string{long[:31], "b"}) {
			t.Errorf("%q behind a long word: %q", s, l)
		}
	}
}

func TestP7_1Tokens(t *testing.T) {
	if l := Tokens(""); len(l) != 0 {
		t.Error(l)
	}
	if l := Tokens("- !"); len(l) != 0 {
		t.Error(l)
	}
	want := tokens("get", "a", "b", "x", "1", "a")
	if l := Tokens("GET /a/b?x=1 \xffA"); !slices.Equal(l, want) {
		t.Errorf("%v, not %v", l, want)
	}
	if l := Tokens(long + "Xyz a"); !slices.Equal(l, tokens(long, "a")) { // a cut off end is no word, and takes no place
		t.Error(l)
	}
}

func TestP7_1Plain(t *testing.T) {
	for _, s := range texts() {
		want := plainWords(s)
		if l := Words(s); !slices.Equal(l, want) {
			t.Fatalf("Words of %q: %q, not %q", s, l, want)
		}
		l := Tokens(s)
		if len(l) != len(want) {
			t.Fatalf("Tokens of %q: %d, not %d", s, len(l), len(want))
		}
		for i, w := range want {
			if l[i].Word != w || l[i].Pos != i {
				t.Fatalf("Tokens of %q: %v at %d", s, l[i], i)
			}
		}
	}
}

func TestP7_1NewMemory(t *testing.T) {
	words, l := Words("a b"), Tokens("a b")
	words[0], l[0] = "x", api.Token{Word: "x", Pos: 9}
	if again := Words("a b"); again[0] != "a" {
		t.Error("Words keeps its answer: ", again)
	}
	if again := Tokens("a b"); !slices.Equal(again, tokens("a", "b")) {
		t.Error("Tokens keeps its answer: ", again)
	}
}

func TestP7_2IsWord(t *testing.T) {
	for _, s := range []string{"a", "z", "0", "9", "12ß", "é", "ώ", "ς", "я", "џ", long[:31], long, long[:30] + "é", strings.Repeat("ж", 16)} {
		if !IsWord(s) {
			t.Errorf("%q is told to be no word", s)
		}
	}
	for _, s := range []string{
		"", " ", "A", "aB", "Ba", "É", "Я", "Ѐ", "Ω", "a b", "a!", "!a", " a", "a ", "a_b", "a:b", "_", ":", "\x00", "a\x00",
		"\xff", "a\xff", "\xffa", "\xc3", "\x89", "a\ufffdb", "\ufffd", "×", "÷", "😀", "\xc1\xa1",
		long + "6", long[:31] + "é", strings.Repeat("ж", 16) + "a", strings.Repeat("ж", 17), long + " ", strings.Repeat("a", 1<<20),
	} {
		if IsWord(s) {
			t.Errorf("%.80q is told to be a word", s)
		}
	}
	for _, s := range texts() {
		for _, w := range append(Words(s), s) {
			if IsWord(w) != plainIsWord(w) {
				t.Fatalf("IsWord of %q: %v", w, IsWord(w))
			}
		}
	}
	for r := range 1114112 {
		if s := utf.Encode(r); IsWord(s) != (utf.IsWord(r) && utf.Lower(r) == r) {
			t.Fatalf("IsWord of the rune %d: %v", r, IsWord(s))
		}
	}
}

func TestP7_2IsName(t *testing.T) {
	for _, s := range []string{"a", "z", "0", "9", "_", "msg", "_a_", "a1", "1a", long[:31], long, strings.Repeat("_", 32)} {
		if !IsName(s) {
			t.Errorf("%q is told to be no name", s)
		}
	}
	for _, s := range []string{"", "A", "aB", "Ba", "a b", " a", "a ", "a-b", "a.b", "a:b", ":", "a:", ":a", "é", "aé", "\xff", "a\xff", "\x80a", "a\x00", "\x00", "\ufffd", long + "6", long + "_", long[:31] + "é", strings.Repeat("a", 1<<20)} {
		if IsName(s) {
			t.Errorf("%.80q is told to be a name", s)
		}
	}
	for c := range 256 {
		for _, s := range []string{string([]byte{byte(c)}), string([]byte{'a', byte(c)}), string([]byte{byte(c), 'z'}), string([]byte{'_', byte(c), '0'}), long[:31] + string([]byte{byte(c)})} {
			if IsName(s) != plainIsName(s) {
				t.Errorf("IsName of %q: %v", s, IsName(s))
			}
		}
	}
}

func TestP7_2Term(t *testing.T) {
	for _, x := range [][3]string{
		{"msg", "a", "msg:a"}, {"_", "é", "_:é"}, {"a", "a", "a:a"}, {"0", "12ß", "0:12ß"}, {long, long, long + ":" + long}, {long[:31], long[:31], long[:31] + ":" + long[:31]}, {long, strings.Repeat("я", 16), long + ":" + strings.Repeat("я", 16)},
	} {
		s, e := Term(x[0], x[1])
		if s != x[2] || e != api.OK {
			t.Errorf("Term of %q, %q: %q, %d", x[0], x[1], s, e)
		}
		if len(s) > api.MaxTerm {
			t.Errorf("a term of %d bytes", len(s))
		}
	}
	names := []string{"", "A", "Msg", "a-b", "a:", ":", "a b", "é", "\xff", long + "6"}
	words := []string{"", "A", "aB", "É", "a b", "a!", "a_b", ":", "a:b", "\xff", "a\xff", long + "6", long[:31] + "é"}
	for _, n := range append(names, "msg") {
		for _, w := range append(words, "a") {
			if s, e := Term(n, w); (s != "" || e != api.ErrArg) && (n != "msg" || w != "a") {
				t.Errorf("Term of %q, %q: %q, %d", n, w, s, e)
			}
		}
	}
}

func TestP7_2Split(t *testing.T) {
	for _, x := range [][3]string{{"msg:a", "msg", "a"}, {"_:é", "_", "é"}, {"0:0", "0", "0"}, {long + ":" + long, long, long}, {"a:" + long[:30] + "é", "a", long[:30] + "é"}} {
		if n, w, ok := Split(x[0]); n != x[1] || w != x[2] || !ok {
			t.Errorf("Split of %q: %q, %q, %v", x[0], n, w, ok)
		}
	}
	for _, s := range []string{
		"", ":", "::", "msg", "a", ":a", "msg:", "msg::a", "msg:a:", ":msg:a", "msg:a:b", "msg:a::b", "a:b:c:d",
		"Msg:a", "msg:A", "msg:É", "ms g:a", "msg :a", "msg: a", "msg:a b", "msg:a!", "msg:a_b", "a-b:c", "é:a", "\xff:a", "a:\xff", "a\xff:b", "msg:\ufffd", "msg\uff1aa", "msg;a", "msg a",
		long + "6:a", "a:" + long + "6", "a:" + long[:31] + "é", strings.Repeat("a", 1<<20), strings.Repeat("a", 1<<20) + ":a", "a:" + strings.Repeat("a", 1<<20), strings.Repeat(":", 1<<20),
	} {
		if n, w, ok := Split(s); n != "" || w != "" || ok {
			t.Errorf("Split of %.80q: %q, %q, %v", s, n, w, ok)
		}
	}
}

func TestP7_3Phrase(t *testing.T) {
	l := Tokens("a b c a b a a b c c") // at 0 to 9
	for _, x := range []struct {
		l      []api.Token
		words  []string
		places []int
	}{
		{nil, nil, nil}, {l, nil, nil}, {l, []string{}, nil}, {nil, []string{"a"}, nil}, {nil, []string{"a", "b"}, nil},
		{l, []string{"a"}, []int{0, 3, 5, 6}}, {l, []string{"c"}, []int{2, 8, 9}}, {l, []string{"d"}, nil}, {l, []string{"A"}, nil}, {l, []string{""}, nil},
		{l, []string{"a", "b"}, []int{0, 3, 6}}, {l, []string{"a", "a"}, []int{5}}, {l, []string{"c", "c"}, []int{8}}, {l, []string{"b", "a"}, []int{4}}, {l, []string{"a", "c"}, nil}, {l, []string{"a", ""}, nil},
		{l, []string{"a", "b", "c"}, []int{0, 6}}, {l, []string{"c", "c", "c"}, nil}, {l, []string{"b", "c", "c"}, []int{7}},
		{l, strings.Fields("a b c a b a a b c c"), []int{0}}, {l, strings.Fields("a b c a b a a b c c c"), nil}, {l[9:], []string{"c", "c"}, nil}, {l[9:], []string{"c"}, []int{9}},
		{Tokens("x x x x"), []string{"x", "x"}, []int{0, 1, 2}}, {Tokens("x x x x"), []string{"x", "x", "x"}, []int{0, 1}}, {Tokens("x x x x"), []string{"x", "x", "x", "x", "x"}, nil},
		{Tokens("x x y"), []string{"x", "y"}, []int{1}},
	} {
		if p := Phrase(x.l, x.words...); !slices.Equal(p, x.places) {
			t.Errorf("Phrase of %v in %v: %v, not %v", x.words, x.l, p, x.places)
		}
	}
}

func TestP7_3PhrasePlaces(t *testing.T) {
	for _, x := range []struct {
		l      []api.Token
		places []int // of "a", "b"
	}{
		{tokens(7, "a", "b"), []int{7}}, {tokens(-1, "a", "b"), []int{-1}}, {tokens(-9, "a", "b"), []int{-9}},
		{tokens(7, "a", 9, "b"), nil}, {tokens(7, "a", 7, "b"), nil}, {tokens(7, "a", 6, "b"), nil}, {tokens(7, "a", -8, "b"), nil},
		{tokens(7, "a", "x", "b"), nil},                 // not directly behind it
		{tokens(7, "a", "x", 8, "b"), nil},              // at one place more, but not directly behind it
		{tokens(7, "b", 6, "a"), nil},                   // in order of places, not of the row
		{tokens(5, "a", "b", 5, "a", "b"), []int{5, 5}}, // each token tells its place
		{tokens(9, "a", "b", 3, "a", "b", 3, "a", "b"), []int{9, 3, 3}},
		{tokens(5, "a", 5, "a", "b"), []int{5}},
		{tokens(math.MaxInt-1, "a", "b"), []int{math.MaxInt - 1}}, {tokens(math.MinInt, "a", "b"), []int{math.MinInt}},
		{tokens(math.MaxInt, "a", math.MinInt, "b"), nil}, {tokens(math.MinInt, "a", math.MaxInt, "b"), nil}, {tokens(math.MaxInt, "a", math.MaxInt, "b"), nil},
		{tokens(64, "a", 128, "b"), nil},
	} {
		if p := Phrase(x.l, "a", "b"); !slices.Equal(p, x.places) {
			t.Errorf("Phrase in %v: %v, not %v", x.l, p, x.places)
		}
	}
	if p := Phrase(tokens("a", "b", 3, "c"), "a", "b", "c"); len(p) != 0 {
		t.Error("a gap ahead of the last word: ", p)
	}
	if p := Phrase(tokens("a", 0, "b", 2, "c"), "a", "b", "c"); len(p) != 0 {
		t.Error("places that are right but for the one between: ", p)
	}
	if p := Phrase(tokens(5, "", "", "A b"), "", "", "A b"); !slices.Equal(p, []int{5}) {
		t.Error("words that are none, made by hand: ", p)
	}
}

// extremes are places about the ends of all numbers, and about 0.
var extremes = []int{math.MinInt, math.MinInt + 1, math.MaxInt - 2, math.MaxInt - 1, math.MaxInt, -2, -1, 0, 1}

// randomTokens are tokens of few words, whose places go on in order or leap.
func randomTokens(r *rand.Rand) []api.Token {
	l := make([]api.Token, r.Intn(30))
	kinds := 1 + r.Intn(3)
	odd := r.Intn(8)
	pos := r.Intn(20) - 10
	for i := range l {
		pos++ // which may go round
		if r.Intn(40) < odd {
			pos = append(extremes, pos+1, pos-1, pos-2, pos+r.Intn(40))[r.Intn(len(extremes)+4)]
		}
		l[i] = api.Token{Word: []string{"a", "b", ""}[r.Intn(kinds)], Pos: pos}
	}
	return l
}

func TestP7_3PhraseRandom(t *testing.T) {
	r := rand.New(rand.NewSource(73))
	found := 0
	for range 200000 {
		l := randomTokens(r)
		words := make([]string, r.Intn(5))
		for i := range words {
			words[i] = []string{"a", "b", ""}[r.Intn(1+r.Intn(3))]
		}
		kept, keptWords := slices.Clone(l), slices.Clone(words)
		p, want := Phrase(l, words...), plainPhrase(l, words)
		if !slices.Equal(p, want) {
			t.Fatalf("Phrase of %q in %v: %v, not %v", words, l, p, want)
		}
		if !slices.Equal(l, kept) || !slices.Equal(words, keptWords) {
			t.Fatalf("what was handed in is changed: %v, %q", l, words)
		}
		found += len(p)
	}
	if found < 100000 {
		t.Errorf("only %d places were found", found)
	}
}

func TestP7_3PhraseNewMemory(t *testing.T) {
	l, words := Tokens("a b a b"), []string{"a", "b"}
	p := Phrase(l, words...)
	p[0] = 99
	if !slices.Equal(l, tokens("a", "b", "a", "b")) || !slices.Equal(Phrase(l, words...), []int{0, 2}) {
		t.Error("an answer is kept, or shared with what was handed in")
	}
}

func TestP7_3Prefixed(t *testing.T) {
	l := tokens("abc", 9, "é", 3, "", "Xy")
	for _, s := range []string{"", "a", "ab", "abc", "é", "\xc3", "X", "Xy"} {
		if !Prefixed(l, s) {
			t.Errorf("no word is told to begin with %q", s)
		}
	}
	for _, s := range []string{"A", "b", "bc", "abcd", "c", "\xa9", "x", "y", "abc ", " ", "\x00", strings.Repeat("a", 1<<20)} {
		if Prefixed(l, s) {
			t.Errorf("a word is told to begin with %.80q", s)
		}
	}
	for _, s := range []string{"", "a"} {
		if Prefixed(nil, s) || Prefixed([]api.Token{}, s) {
			t.Errorf("a word of no tokens is told to begin with %q", s)
		}
	}
	for _, s := range []string{"", "x", "b"} {
		if one := tokens(4, "b"); Prefixed(one, s) != (s != "x") || !slices.Equal(one, tokens(4, "b")) {
			t.Errorf("one word, %q: %v", s, one)
		}
	}
	if !Prefixed(tokens(""), "") || Prefixed(tokens(""), "a") {
		t.Error("a word without bytes")
	}
}

func TestP7_4(t *testing.T) {
	for _, s := range texts() {
		l := Words(s)
		if again := Words(strings.Join(l, " ")); !slices.Equal(again, l) {
			t.Fatalf("the words of the words of %q: %q, not %q", s, again, l)
		}
		for _, w := range l {
			if !IsWord(w) {
				t.Fatalf("a word of %q is told to be none: %q", s, w)
			}
		}
	}
}

func TestP7_5(t *testing.T) {
	r := rand.New(rand.NewSource(75))
	terms, none := 0, 0
	pieces := []string{"a", "z", "0", "9", "_", "msg", "é", "я", long[:31], long[:30], ":", ":", ":", "", "A", "É", " ", "\xff"}
	for range 300000 {
		s := ""
		for range r.Intn(6) {
			s += pieces[r.Intn(len(pieces))]
		}
		name, word, ok := Split(s)
		if n, w, is := plainSplit(s); name != n || word != w || ok != is {
			t.Fatalf("Split of %q: %q, %q, %v", s, name, word, ok)
		}
		if !ok {
			none++
			continue
		}
		terms++
		if made, e := Term(name, word); made != s || e != api.OK {
			t.Fatalf("Term of what Split told of %q: %q, %d", s, made, e)
		}
	}
	if terms < 1000 || none < 1000 {
		t.Errorf("%d terms, %d texts that are none", terms, none)
	}
	for _, s := range texts() {
		for _, w := range append(Words(s), s) {
			for _, n := range []string{"msg", "_", long, w, strings.ToLower(w)} {
				term, e := Term(n, w)
				name, word, ok := Split(term)
				if want := plainIsName(n) && plainIsWord(w); ok != want || want != (e == api.OK) || want && (name != n || word != w) || !want && term+name+word != "" {
					t.Fatalf("Term of %q, %q: %q, %d; Split of it: %q, %q, %v", n, w, term, e, name, word, ok)
				}
			}
		}
	}
}

func TestP7_6(t *testing.T) {
	for _, s := range texts() {
		l := Tokens(s)
		for i := range l {
			if l[i].Pos != i {
				t.Fatalf("Tokens of %q: the place of %d is %d", s, i, l[i].Pos)
			}
		}
		if f := Tokens(utf.Fold(s)); !slices.Equal(f, l) {
			t.Fatalf("Tokens of %q: %v, folded %v", s, l, f)
		}
		if f := Words(utf.Fold(s)); !slices.Equal(f, Words(s)) {
			t.Fatalf("Words of %q, folded: %q", s, f)
		}
	}
}
