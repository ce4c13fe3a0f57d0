package segment

import (
	"fmt"
	"math"
	"math/rand"
	"slices"
	"strings"

	"loggia/api"
)

// xs is a text of so many bytes.
func xs(n int) string { return strings.Repeat("x", n) }

// doc is a doc of an event at a time, with fields of names and texts, by turns.
func doc(seq, at int, l ...string) api.Doc {
	d := api.Doc{Seq: seq, E: api.Event{At: at}}
	for i := 0; i+1 < len(l); i += 2 {
		d.E.Fields = append(d.E.Fields, api.Field{Name: l[i], Text: l[i+1]})
	}
	return d
}

// alike is a doc whose event has n fields that are alike.
func alike(seq, n int, name, text string) api.Doc {
	return doc(seq, n, slices.Repeat([]string{name, text}, n)...)
}

// many is a row of n docs, whose numbers rise by 3 from 1 on; some of their terms stand in all docs, some in a few, some in one.
func many(n int) []api.Doc {
	l := make([]api.Doc, 0, n)
	for i := range n {
		l = append(l, doc(3*i+1, 7*i%40-5, "msg", "Disk "+xs(i%3)+" full, disk!", "n", fmt.Sprint(i), "msg", string(rune('a'+i%26))))
	}
	return l
}

// bare is a row of docs of these numbers, whose events have no fields.
func bare(seqs ...int) []api.Doc {
	var l []api.Doc
	for i, seq := range seqs {
		l = append(l, doc(seq, i))
	}
	return l
}

// timed is a row of docs of these times.
func timed(times ...int) []api.Doc {
	var l []api.Doc
	for i, at := range times {
		l = append(l, doc(i+1, at, "msg", "at", "n", fmt.Sprint(i)))
	}
	return l
}

// spoken is a doc of each text.
func spoken(texts ...string) []api.Doc {
	var l []api.Doc
	for i, s := range texts {
		l = append(l, doc(i+5, 10*i, "msg", s))
	}
	return l
}

// numbered is a text of n words that are apart.
func numbered(n int) string {
	var l []string
	for i := range n {
		l = append(l, fmt.Sprintf("w%d", i))
	}
	return strings.Join(l, " ")
}

// sizes are numbers of docs about the ends of blocks: 16 docs, 16 terms, 32 posts.
var sizes = []int{1, 2, 15, 16, 17, 31, 32, 33, 47, 48, 49, 64, 65, 100}

// oddTimes are times at the ends, and where a number's bytes become more.
var oddTimes = []int{0, 1, -1, 63, 64, -64, -65, 8191, 8192, -8192, -8193, math.MaxInt32, math.MinInt32, math.MaxInt - 1, math.MaxInt, math.MinInt + 1, math.MinInt}

// smallRows are a few rows that may be, whose bytes are few.
func smallRows() [][]api.Doc {
	return [][]api.Doc{
		{doc(1, 0)}, {doc(1, 0, "a", "")}, {doc(1<<40, math.MinInt, "a", "b")}, {doc(3, -7, "a", "b b a", "a", "b")}, bare(1, 5, 6), many(2), many(5), many(17),
		{doc(3, 50, "msg", "disk full", "host", "web"), doc(4, -10, "msg", "disk ok disk", "host", "web"), doc(9, 70, "msg", "", "host", "web")},
		timed(math.MinInt, math.MaxInt, math.MinInt), spoken("a b", "c d", "e f"), spoken("a b", "a b", "a b"), spoken(numbered(17)),
	}
}

// goodRows may be: small ones, at the ends, about blocks, and random ones.
func goodRows() [][]api.Doc {
	full := doc(5, math.MinInt)
	for i := range 16 {
		full.E.Fields = append(full.E.Fields, api.Field{Name: fmt.Sprintf("%s%02d", strings.Repeat("n", 30), i), Text: strings.Repeat("a ", 1000) + strings.Repeat("\xff", 2096)})
	}
	l := append(smallRows(), [][]api.Doc{
		{{Seq: 1, E: api.Event{Fields: []api.Field{}}}}, {doc(1<<40, 0)}, bare(1, 1<<40), bare(1<<40-1, 1<<40), bare(1, 2, 3), bare(127, 128, 129, 300),
		{doc(1, 1, "a", "-- \xff\xfe !")}, {doc(1, 1, "a", strings.Repeat("y", 31)+"z", "b", xs(33), "c", xs(31)+"\xc3\x9f", "d", xs(30)+"\xc3\x9f")}, {doc(7, 0, "a", "b", "a", "b", "b", "a")}, {alike(1, 16, "_", "go on and on")}, {full}, {doc(1, 1, "a", "a"), full, doc(6, 0, "a", "a")},
		{doc(1, 1, "a", "GR\xc3\x9cN \xd0\x9f\xd0\xa0 \xce\xa9 \xd0\x81 12\xc3\x9f! a\x00b \xef\xbf\xbd c\xff")}, {doc(1, 1, "z", "a"), doc(2, 1, "a", "z"), doc(3, 1, "a_", "a", "a0", "a", "a", "a")}, {doc(2, 5, "msg", "one"), doc(3, 5, "msg", "one two one two", "msg", "one"), doc(4, 5), doc(5, 5, "msg", "two")},
		timed(5, 5, 5), timed(9, 8, 7, -1), timed(math.MaxInt, math.MinInt), timed(math.MinInt, math.MaxInt), timed(math.MaxInt, math.MaxInt, math.MinInt, math.MinInt, 0), timed(0, math.MinInt, -1, math.MaxInt, 1), timed(oddTimes...),
		spoken("a", "b", "a", "c", "a"), spoken("same", "same"), spoken("", "", "x"), spoken(xs(40), xs(41)),
	}...)
	for _, n := range sizes {
		row, same, apart, words := many(n), []api.Doc{}, []api.Doc{}, spoken(numbered(n))
		high := copyOfAll(row) // its last number is the greatest one
		for i := range high {
			high[i].Seq += 1<<40 - row[n-1].Seq
			same = append(same, doc(i+1, 4, "msg", "all the same, the same")) // a term stands in all docs
			apart = append(apart, doc(i+1, -i, "msg", fmt.Sprint("only", i))) // no term stands in two
		}
		l = append(l, row, high, same, apart, words)
	}
	for _, at := range oddTimes {
		l = append(l, timed(at), timed(at, -at, at))
	}
	r := rand.New(rand.NewSource(1))
	for i := range 300 {
		l = append(l, randomRow(r, 1+i%70))
	}
	return l
}

// oddSeqs may not be a doc's numbers.
var oddSeqs = []int{0, -1, -2, -128, math.MinInt, math.MinInt + 1, math.MinInt32, 1<<40 + 1, 1<<40 + 2, 1 << 41, 1<<62 + 1, 1<<63 - 2, math.MaxInt}

// oddEvents are events that may not be.
func oddEvents() []api.Event {
	return []api.Event{
		alike(1, 17, "a", "").E, alike(1, 200, "a", "b").E, doc(1, 0, "", "").E, doc(1, 0, "", "x").E, doc(1, 0, "A", "x").E, doc(1, 0, "a b", "x").E, doc(1, 0, "a:", "x").E, doc(1, 0, "\xff", "x").E,
		doc(1, 0, strings.Repeat("n", 33), "").E, doc(1, 0, "a", xs(4097)).E, doc(1, 0, "a", "", "b", xs(4097)).E, doc(1, 0, "a", "", "B", "").E, {Fields: make([]api.Field, 1)}, {Fields: make([]api.Field, 17)},
	}
}

// badRows may not be: one doc is odd, at the first, a middle or the last place, or about a block's end.
func badRows() [][]api.Doc {
	l := [][]api.Doc{bare(1, 1), bare(2, 1), bare(1, 2, 2), bare(1, 3, 2), bare(1, 1, 2), bare(2, 1, 3), bare(1<<40, 1<<40), bare(1<<40, 1), bare(1<<40, 1<<40+1), bare(0, 1), bare(-1, 0, 1), {{}}, {{}, {}}}
	for _, n := range []int{1, 2, 16, 17, 33} {
		for _, at := range []int{0, n / 2, n - 1, 15, 16} {
			if at >= n {
				continue
			}
			for _, seq := range oddSeqs {
				row := many(n)
				row[at].Seq = seq
				l = append(l, row)
			}
			for _, e := range oddEvents() {
				row := many(n)
				row[at].E = e
				l = append(l, row)
			}
			if at > 0 {
				same, less := many(n), many(n)
				same[at].Seq = same[at-1].Seq
				less[at].Seq = less[at-1].Seq - 1
				l = append(l, same, less)
			}
		}
	}
	return l
}

// someWords are what texts are made of: words, some the beginning of others, in any case, and what is none.
var someWords = []string{"a", "A", "b", "aa", "ab", "a0", "disk", "Disk", "full", "\xc3\x89", "\xc3\xa9", "12\xc3\x9f", "x:y", "-", "!", "\xff", "\x00", "\xe2\x82\xac", strings.Repeat("w", 40), "a_b", "\xd0\x96"}

// randomText is a text of up to n words, or of any bytes.
func randomText(r *rand.Rand, n int) string {
	if r.Intn(5) == 0 {
		b := make([]byte, r.Intn(n+1))
		r.Read(b)
		return string(b)
	}
	var l []string
	for range r.Intn(n + 1) {
		l = append(l, someWords[r.Intn(len(someWords))])
	}
	return strings.Join(l, " ")
}

// randomEvent is an event that may be.
func randomEvent(r *rand.Rand) api.Event {
	e := api.Event{At: int(r.Uint64()) >> r.Intn(64)}
	if r.Intn(4) == 0 {
		e.At = oddTimes[r.Intn(len(oddTimes))]
	}
	for range r.Intn(4) {
		name := []string{"a", "a0", "msg", "host", "_", strings.Repeat("n", 32)}[r.Intn(6)]
		e.Fields = append(e.Fields, api.Field{Name: name, Text: randomText(r, 1<<r.Intn(6))})
	}
	return e
}

// randomRow is a row of one doc to n that may be.
func randomRow(r *rand.Rand, n int) []api.Doc {
	var l []api.Doc
	seq, by := 0, r.Intn(34)
	for range 1 + r.Intn(n) {
		seq += 1 + r.Intn(1<<r.Intn(by+1))
		l = append(l, api.Doc{Seq: seq, E: randomEvent(r)})
	}
	if r.Intn(3) == 0 { // as near as can be to the greatest number
		for i := range l {
			l[i].Seq += 1<<40 - seq
		}
	}
	return l
}

// turned is a row in which one thing is another one, so that it may often not be.
func turned(r *rand.Rand, l []api.Doc) []api.Doc {
	l = copyOfAll(l)
	i, j := r.Intn(len(l)), r.Intn(len(l))
	switch r.Intn(7) {
	case 0:
		l[i].Seq = l[j].Seq
	case 1:
		l[i], l[j] = l[j], l[i]
	case 2:
		l[i].Seq = oddSeqs[r.Intn(len(oddSeqs))]
	case 3:
		l[i].E = oddEvents()[r.Intn(len(oddEvents()))]
	case 4:
		l[i].Seq += r.Intn(9) - 4
	case 5:
		l[i].E = randomEvent(r)
	case 6:
		l[i].E.At++
	}
	return l
}

// short is a row for a message: how many docs it has, and the first few.
func short(l []api.Doc) string {
	return fmt.Sprintf("%d docs, %.200s", len(l), fmt.Sprint(l[:min(len(l), 5)]))
}
