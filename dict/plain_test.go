package dict

import (
	"encoding/binary"
	"math"
	"math/rand"
	"slices"
	"strings"

	"loggia/api"
)

// plainMay tells by the chapter's words whether entries may be.
func plainMay(l []api.Entry) bool {
	if len(l) > 262144 {
		return false
	}
	for i, e := range l {
		if len(e.Term) < 1 || len(e.Term) > 65 || i > 0 && slices.Compare([]byte(l[i-1].Term), []byte(e.Term)) >= 0 {
			return false
		}
		for _, n := range []int{e.Off, e.Len, e.N} {
			if n < 0 || n > 67108864 {
				return false
			}
		}
	}
	return true
}

// number is a number's bytes.
func number(n int) string { return string(binary.AppendUvarint(nil, uint64(n))) }

// plainEntry is an entry's bytes behind those of another one in a block.
func plainEntry(ahead string, e api.Entry) string {
	n := len(e.Term)
	for !strings.HasPrefix(ahead, e.Term[:n]) {
		n--
	}
	return number(n) + number(len(e.Term)-n) + e.Term[n:] + number(e.Off) + number(e.Len) + number(e.N)
}

// plainBytes are the bytes of entries by the chapter's words, also of some that may not be.
func plainBytes(l []api.Entry) string {
	var all strings.Builder
	all.WriteString(number(len(l)))
	for from := 0; from < len(l); from += 16 {
		block, ahead := "", ""
		for _, e := range l[from:min(from+16, len(l))] {
			block += plainEntry(ahead, e)
			ahead = e.Term
		}
		all.WriteString(number(len(block)) + block)
	}
	return all.String()
}

// loose takes numbers and texts from bytes, told as long as one likes; numbers above 2^27 count as 2^27, which may nowhere be.
type loose struct {
	left string
	odd  bool
}

func (x *loose) number() int {
	n, size := binary.Uvarint([]byte(x.left[:min(len(x.left), 10)]))
	if size <= 0 {
		x.odd, x.left = true, ""
		return 0
	}
	x.left = x.left[size:]
	return int(min(n, 1<<27))
}

func (x *loose) text() string {
	n := x.number()
	if n > len(x.left) {
		x.odd, x.left = true, ""
		return ""
	}
	s := x.left[:n]
	x.left = x.left[n:]
	return s
}

// plainOpen are the entries that have these bytes: those that the bytes tell, if they may be and have just these bytes.
func plainOpen(s string) ([]api.Entry, bool) {
	x := loose{left: s}
	n := x.number()
	var l []api.Entry
	for i := 0; i < n && !x.odd; i++ {
		if i%16 == 0 {
			x.number()
		}
		e := api.Entry{}
		if same := x.number(); i > 0 {
			e.Term = l[i-1].Term[:min(same, len(l[i-1].Term))]
		}
		e.Term += x.text()
		e.Off, e.Len, e.N = x.number(), x.number(), x.number()
		if len(e.Term) > 65 {
			x.odd = true
		}
		l = append(l, e)
	}
	if x.odd || !plainMay(l) || plainBytes(l) != s {
		return nil, false
	}
	return l, true
}

// plainGet is what Get is to answer.
func plainGet(l []api.Entry, term string) (api.Entry, bool) {
	for _, e := range l {
		if e.Term == term {
			return e, true
		}
	}
	return api.Entry{}, false
}

// plainPrefix is what Prefix is to answer.
func plainPrefix(l []api.Entry, p string) []api.Entry {
	var some []api.Entry
	for _, e := range l {
		if len(e.Term) >= len(p) && e.Term[:len(p)] == p {
			some = append(some, e)
		}
	}
	return some
}

// plainFloor is what Floor is to answer.
func plainFloor(l []api.Entry, term string) int {
	n := 0
	for _, e := range l {
		if slices.Compare([]byte(e.Term), []byte(term)) < 0 {
			n++
		}
	}
	return n
}

// xs is a text of so many bytes.
func xs(n int) string { return strings.Repeat("x", n) }

// at is an entry.
func at(term string, off, size, n int) api.Entry {
	return api.Entry{Term: term, Off: off, Len: size, N: n}
}

// of are entries of these terms, each with other numbers.
func of(terms ...string) []api.Entry {
	l := []api.Entry{}
	for i, s := range terms {
		l = append(l, at(s, 100*i, 1+i, 3*i+7))
	}
	return l
}

// many are n entries of terms of two letters and more, of which some begin alike.
func many(n int) []api.Entry {
	var terms []string
	for i := range n {
		s := "msg:"
		for _, by := range []int{26 * 26 * 26, 26 * 26, 26, 1} {
			s += string(rune('a' + i/by%26))
		}
		terms = append(terms, s)
	}
	return of(terms...)
}

// numbered are entries of these terms, sorted and told once, with random numbers.
func numbered(r *rand.Rand, terms []string) []api.Entry {
	slices.Sort(terms)
	var l []api.Entry
	for _, s := range slices.Compact(terms) {
		l = append(l, at(s, anyNumber(r), anyNumber(r), anyNumber(r)))
	}
	return l
}

// anyNumber is one that may be, often a small one.
func anyNumber(r *rand.Rand) int {
	if r.Intn(20) == 0 {
		return 1<<26 - r.Intn(2)
	}
	return r.Intn(1 << r.Intn(27))
}

// randomTerm is a term of up to 65 bytes, of few kinds, so that many begin alike.
func randomTerm(r *rand.Rand) string {
	kinds := []string{"ab", "ab:", "\x00\x01", "\x7f\x80", "\xfe\xff", "a\x00\xff\x80", "abcdefghijklmnopqrstuvwxyz"}[r.Intn(7)]
	n := 1 + r.Intn(1+r.Intn(9))
	if r.Intn(8) == 0 {
		n = 60 + r.Intn(6)
	}
	b := make([]byte, n)
	for i := range b {
		b[i] = kinds[r.Intn(len(kinds))]
		if n >= 60 && i < 50 {
			b[i] = 'a'
		}
	}
	return string(b)
}

// randomEntries are up to n entries that may be.
func randomEntries(r *rand.Rand, n int) []api.Entry {
	var terms []string
	for range r.Intn(n + 1) {
		terms = append(terms, randomTerm(r))
	}
	return numbered(r, terms)
}

// oddNumbers may not be.
var oddNumbers = []int{-1, -2, -128, math.MinInt, math.MinInt + 1, math.MinInt32, 1<<26 + 1, 1<<26 + 2, 1 << 27, 1 << 31, 1 << 32, 1<<32 + 1, 1 << 62, math.MaxInt - 1, math.MaxInt}

// turned are entries in which one thing is another one, so that they may often not be.
func turned(r *rand.Rand, l []api.Entry) []api.Entry {
	l = slices.Clone(l)
	if len(l) == 0 {
		return l
	}
	i, j := r.Intn(len(l)), r.Intn(len(l))
	if r.Intn(2) == 0 {
		j = max(i-1, 0)
	}
	odd := oddNumbers[r.Intn(len(oddNumbers))]
	switch r.Intn(9) {
	case 0:
		l[i].Term = ""
	case 1:
		l[i].Term += xs(66 - len(l[i].Term))
	case 2:
		l[i].Term += xs(65 - len(l[i].Term))
	case 3:
		l[i].Term = l[j].Term
	case 4:
		l[i], l[j] = l[j], l[i]
	case 5:
		l[i].Off = odd
	case 6:
		l[i].Len = odd
	case 7:
		l[i].N = odd
	case 8:
		l[i].Term = randomTerm(r)
	}
	return l
}
