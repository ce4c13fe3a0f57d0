package token

import (
	"math/big"
	"math/rand"
	"regexp"
	"strings"

	"loggia/api"
	"loggia/utf"
)

// rows finds the longest rows of runes that are parts of words, as chapter 1 names them.
var rows = regexp.MustCompile(`[\x{30}-\x{39}\x{41}-\x{5A}\x{61}-\x{7A}\x{C0}-\x{D6}\x{D8}-\x{F6}\x{F8}-\x{FF}\x{391}-\x{3A1}\x{3A3}-\x{3CE}\x{400}-\x{45F}]+`)

// plainWords are a text's words by the chapter's words: the library finds the rows and their lower ones, and the longest beginning that has room is looked for rune by rune from the end.
func plainWords(s string) []string {
	var l []string
	for _, w := range rows.FindAllString(utf.Encode(utf.Runes(s)...), -1) {
		runes := []rune(strings.ToLower(w))
		n := min(len(runes), 32) // each has a byte
		for len(string(runes[:n])) > 32 {
			n--
		}
		l = append(l, string(runes[:n]))
	}
	return l
}

// plainIsWord tells whether bytes are a word by the chapter's words.
func plainIsWord(s string) bool {
	l := plainWords(s)
	return len(s) >= 1 && len(s) <= 32 && len(l) == 1 && l[0] == s
}

// plainIsName tells whether bytes are a name by the chapter's words.
func plainIsName(s string) bool {
	for i := range len(s) {
		if strings.IndexByte("abcdefghijklmnopqrstuvwxyz0123456789_", s[i]) < 0 {
			return false
		}
	}
	return len(s) >= 1 && len(s) <= 32
}

// plainSplit tries all places of a term for the colon.
func plainSplit(term string) (name, word string, ok bool) {
	for i := range len(term) {
		if term[i] == ':' && plainIsName(term[:i]) && plainIsWord(term[i+1:]) {
			return term[:i], term[i+1:], true
		}
	}
	return "", "", false
}

// plainPhrase holds each of the words against each token, and the places as numbers without bound.
func plainPhrase(l []api.Token, words []string) []int {
	var places []int
	for i := range l {
		all := len(words) > 0
		for j, w := range words {
			if i+j >= len(l) || l[i+j].Word != w {
				all = false
				break
			}
			want := new(big.Int).Add(big.NewInt(int64(l[i].Pos)), big.NewInt(int64(j)))
			all = all && want.Cmp(big.NewInt(int64(l[i+j].Pos))) == 0
		}
		if all {
			places = append(places, l[i].Pos)
		}
	}
	return places
}

// parts are what words of the tests' texts are put together from: runes of each range and about its ends, of one byte and of two.
var parts = []string{"a", "z", "A", "Z", "0", "9", "é", "É", "ß", "ÿ", "Ω", "ω", "ώ", "ς", "Ѐ", "ѐ", "Я", "я", "џ", "ab", "abcdefg", "ÀÖØÞ", "ЖЖЖЖЖ"}

// others stand between words: runes about the ranges' ends, such as have lower ones of more or fewer bytes elsewhere, and bytes that are no runes, also the beginning or the end of one.
var others = []string{
	" ", "-", "_", ":", "/", "@", "[", "`", "{", "\x00", "\n", "×", "÷", "\u0390", "\u03a2", "\u03cf", "\u03ff", "\u0460", "\u0130", "\u023a", "\u1e9e", "\u212a", "€", "😀", "\ufffd",
	"\xff", "\xc3", "\x89", "\xe2\x82", "\xf0\x9f\x98", "\xc1\x81", "\xed\xa0\x80", "\xc3\xc3\x89",
}

// randomText is a text of fewer than n pieces; in some such texts few stand between words, so that these are long.
func randomText(r *rand.Rand, n int) string {
	between := r.Intn(12)
	s := ""
	for range r.Intn(n) {
		if r.Intn(12) < between {
			s += others[r.Intn(len(others))]
		} else {
			s += parts[r.Intn(len(parts))]
		}
	}
	return s
}

// texts are texts of all sorts: none, plain ones, words about the bound, and random ones.
func texts() []string {
	l := []string{
		"", " ", "!?- ..", "\xff", "\x80\x80", "a", "A", "0", "é", "É", "Ab-c 12ß!", "GET /a/b?x=1 \xffOK", " lead and trail ", "a:b", "msg:Disk full: /dev/sda1",
		"a_b", "×a÷b×", "İstanbul", "\u212bngstr\u00f6m", "10:20:30.123Z", "\ufffd", "x\ufffdy", "\xc3", "a\xc3", "\xc3a", "\xc3 \x89", "\x89a", "ΑΒΓ αβγ ΣΑΣ", "ПРИВЕТ, Мир", "ЀЁЂ ѐёђ",
	}
	for _, long := range []string{strings.Repeat("a", 100), strings.Repeat("é", 50), strings.Repeat("Ab1", 30), strings.Repeat("Я", 40), "z" + strings.Repeat("é", 50)} {
		for n := 28; n <= 36; n++ {
			l = append(l, long[:n], long[:n]+"é", long[:n]+"éb", long[:n]+" b", "x "+long[:n]+"\xff"+long[:n], long[:n]+"😀c")
		}
	}
	r := rand.New(rand.NewSource(7))
	for range 3000 {
		l = append(l, randomText(r, 60))
	}
	return append(l, strings.Join(l, " "), strings.Join(l, ""), strings.Repeat("É\xff", 50000), strings.Repeat("Éa", 50000))
}
