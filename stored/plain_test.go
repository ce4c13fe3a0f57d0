package stored

import (
	"encoding/binary"
	"math"
	"math/rand"
	"slices"
	"strings"

	"loggia/api"
)

// plainEventMay tells by the words of chapter 10 whether an event may be.
func plainEventMay(e api.Event) bool {
	for _, f := range e.Fields {
		if len(f.Name) < 1 || len(f.Name) > 32 || strings.Trim(f.Name, "abcdefghijklmnopqrstuvwxyz0123456789_") != "" || len(f.Text) > 4096 {
			return false
		}
	}
	return len(e.Fields) <= 16
}

// plainMay tells by the chapter's words whether a row may be.
func plainMay(l []api.Doc) bool {
	for i, d := range l {
		if d.Seq < 1 || d.Seq > 1099511627776 || i > 0 && l[i-1].Seq >= d.Seq || !plainEventMay(d.E) {
			return false
		}
	}
	return len(l) <= 65536
}

// number is a number's bytes.
func number(n int) string { return string(binary.AppendUvarint(nil, uint64(n))) }

// whole is the bytes of a whole number's zigzag.
func whole(n int) string { return string(binary.AppendVarint(nil, int64(n))) }

// text is a text's bytes.
func text(s string) string { return number(len(s)) + s }

// plainEvent is an event's bytes by the words of chapter 10, also of one that may not be.
func plainEvent(e api.Event) string {
	s := whole(e.At) + number(len(e.Fields))
	for _, f := range e.Fields {
		s += text(f.Name) + text(f.Text)
	}
	return s
}

// told is what a row's bytes tell, so that something of it can be told wrong.
type told struct {
	n      string
	lasts  []string
	sizes  []string
	bodies []string
}

// plainTold is what the bytes of a row tell by the chapter's words, also of one that may not be.
func plainTold(l []api.Doc) told {
	t := told{n: number(len(l))}
	ahead := 0
	for i := 0; i < len(l); i += 16 {
		var body strings.Builder
		for _, d := range l[i:min(i+16, len(l))] {
			body.WriteString(number(d.Seq-ahead-1) + plainEvent(d.E))
			ahead = d.Seq
		}
		t.lasts = append(t.lasts, number(ahead))
		t.sizes = append(t.sizes, number(body.Len()))
		t.bodies = append(t.bodies, body.String())
	}
	return t
}

// bytes are the bytes that tell that.
func (t told) bytes() string {
	var all strings.Builder
	all.WriteString(t.n)
	for i := range t.lasts {
		all.WriteString(t.lasts[i] + t.sizes[i])
	}
	all.WriteString(strings.Join(t.bodies, ""))
	return all.String()
}

// copy is what tells the same, in other memory.
func (t told) copy() told {
	return told{n: t.n, lasts: slices.Clone(t.lasts), sizes: slices.Clone(t.sizes), bodies: slices.Clone(t.bodies)}
}

// plainBytes are the bytes of a row by the chapter's words, also of one that may not be.
func plainBytes(l []api.Doc) string { return plainTold(l).bytes() }

// loose takes numbers and texts from bytes, told as long as one likes; numbers above 2^41 count as 2^41, which may nowhere be but in a time.
type loose struct {
	left string
	odd  bool
}

func (x *loose) any() uint64 {
	n, size := binary.Uvarint([]byte(x.left[:min(len(x.left), 10)]))
	if size <= 0 {
		x.odd, x.left = true, ""
		return 0
	}
	x.left = x.left[size:]
	return n
}

func (x *loose) number() int { return int(min(x.any(), 1<<41)) }

func (x *loose) text() string {
	n := x.number()
	if n > len(x.left) {
		x.odd, x.left = true, ""
		return ""
	}
	s := x.left[:n]
	x.left = x.left[n:]
	return s
}

func (x *loose) event() api.Event {
	z := x.any()
	e := api.Event{At: int(z / 2)}
	if z%2 == 1 {
		e.At = -1 - int(z/2)
	}
	for range min(x.number(), 70) {
		name := x.text()
		e.Fields = append(e.Fields, api.Field{Name: name, Text: x.text()})
	}
	return e
}

// plainDecode is the row that has these bytes: that which the bytes tell, if it may be and has just these bytes.
func plainDecode(s string) ([]api.Doc, bool) {
	x := loose{left: s}
	n := x.number()
	for i := 0; i < n && !x.odd; i += 16 {
		x.number()
		x.number()
	}
	var l []api.Doc
	seq := 0
	for i := 0; i < n && !x.odd; i++ {
		seq += x.number() + 1
		l = append(l, api.Doc{Seq: seq, E: x.event()})
	}
	if x.odd || !plainMay(l) || plainBytes(l) != s {
		return nil, false
	}
	return l, true
}

// plainSame tells whether two rows are the same.
func plainSame(a, b []api.Doc) bool {
	if len(a) != len(b) {
		return false
	}
	for i := range a {
		if a[i].Seq != b[i].Seq || a[i].E.At != b[i].E.At || !slices.Equal(a[i].E.Fields, b[i].E.Fields) {
			return false
		}
	}
	return true
}

// isZero tells whether a doc is the zero one, its list being nil or empty.
func isZero(d api.Doc) bool { return d.Seq == 0 && d.E.At == 0 && len(d.E.Fields) == 0 }

// copyOfAll is a row like this one, in other memory.
func copyOfAll(l []api.Doc) []api.Doc {
	var c []api.Doc
	for _, d := range l {
		c = append(c, api.Doc{Seq: d.Seq, E: api.Event{At: d.E.At, Fields: append([]api.Field(nil), d.E.Fields...)}})
	}
	return c
}

// xs is a text of so many bytes.
func xs(n int) string { return strings.Repeat("x", n) }

// doc is a doc of an event at a time, with fields of names and texts, by turns.
func doc(seq, at int, l ...string) api.Doc {
	d := api.Doc{Seq: seq, E: api.Event{At: at}}
	for i := 0; i+1 < len(l); i += 2 {
		d.E.Fields = append(d.E.Fields, api.Field{Name: l[i], Text: l[i+1]})
	}
	return d
}

// alike is a doc whose event has n fields that are alike.
func alike(seq, n int, name, text string) api.Doc {
	return doc(seq, n, slices.Repeat([]string{name, text}, n)...)
}

// many is a row of n docs, whose numbers rise by 3 from 1 on, of small events that are all apart.
func many(n int) []api.Doc {
	l := make([]api.Doc, 0, n)
	for i := range n {
		l = append(l, doc(3*i+1, i-5, "msg", xs(i%3), "n", string(rune('a'+i%26))))
	}
	return l
}

// bare is a row of docs of these numbers, whose events have no fields.
func bare(seqs ...int) []api.Doc {
	var l []api.Doc
	for i, seq := range seqs {
		l = append(l, doc(seq, i))
	}
	return l
}

// sizes are numbers of docs about blocks' ends.
var sizes = []int{0, 1, 2, 15, 16, 17, 31, 32, 33, 47, 48, 49, 100}

// oddSeqs may not be a doc's numbers.
var oddSeqs = []int{0, -1, -2, -128, math.MinInt, math.MinInt + 1, math.MinInt32, 1<<40 + 1, 1<<40 + 2, 1 << 41, 1<<62 + 1, 1<<63 - 2, math.MaxInt}

// oddEvents are events that may not be.
func oddEvents() []api.Event {
	return []api.Event{
		alike(1, 17, "a", "").E, alike(1, 200, "a", "b").E, doc(1, 0, "", "").E, doc(1, 0, "", "x").E, doc(1, 0, "A", "x").E, doc(1, 0, "a b", "x").E, doc(1, 0, "a:", "x").E, doc(1, 0, "\xff", "x").E,
		doc(1, 0, strings.Repeat("n", 33), "").E, doc(1, 0, "a", xs(4097)).E, doc(1, 0, "a", "", "b", xs(4097)).E, doc(1, 0, "a", "", "B", "").E, alike(1, 16, "a", xs(4097)).E, {Fields: make([]api.Field, 1)}, {Fields: make([]api.Field, 17)},
	}
}

// oddTimes are times at the ends, and where a number's bytes become more.
var oddTimes = []int{0, 1, -1, 63, 64, -64, -65, 8191, 8192, -8192, -8193, math.MaxInt32, math.MinInt32, math.MaxInt - 1, math.MaxInt, math.MinInt + 1, math.MinInt}

// randomEvent is an event that may be.
func randomEvent(r *rand.Rand) api.Event {
	e := api.Event{At: int(r.Uint64()) >> r.Intn(64)}
	if r.Intn(4) == 0 {
		e.At = oddTimes[r.Intn(len(oddTimes))]
	}
	for range r.Intn(4) * r.Intn(7) {
		text := make([]byte, r.Intn(1<<r.Intn(7)))
		r.Read(text)
		name := []string{"a", "a0", "msg", "host", "_", strings.Repeat("n", 32)}[r.Intn(6)]
		e.Fields = append(e.Fields, api.Field{Name: name, Text: string(text)})
	}
	e.Fields = e.Fields[:min(len(e.Fields), 16)]
	return e
}

// randomRow is a row of up to n docs that may be.
func randomRow(r *rand.Rand, n int) []api.Doc {
	var l []api.Doc
	seq, by := 0, r.Intn(34)
	for range r.Intn(n + 1) {
		seq += 1 + r.Intn(1<<r.Intn(by+1))
		l = append(l, api.Doc{Seq: seq, E: randomEvent(r)})
	}
	if r.Intn(3) == 0 { // as near as can be to the greatest number
		for i := range l {
			l[i].Seq += 1<<40 - seq
		}
	}
	return l
}

// turned is a row in which one thing is another one, so that it may often not be.
func turned(r *rand.Rand, l []api.Doc) []api.Doc {
	l = copyOfAll(l)
	if len(l) == 0 {
		return l
	}
	i, j := r.Intn(len(l)), r.Intn(len(l))
	if r.Intn(2) == 0 {
		j = max(i-1, 0)
	}
	switch r.Intn(7) {
	case 0:
		l[i].Seq = l[j].Seq
	case 1:
		l[i], l[j] = l[j], l[i]
	case 2:
		l[i].Seq = oddSeqs[r.Intn(len(oddSeqs))]
	case 3:
		l[i].E = oddEvents()[r.Intn(len(oddEvents()))]
	case 4:
		l[i].Seq += r.Intn(9) - 4
	case 5:
		l[i].E = randomEvent(r)
	case 6:
		l[i].E.At++
	}
	return l
}
