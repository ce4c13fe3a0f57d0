package event

import (
	"encoding/binary"
	"math"
	"math/big"
	"math/rand"
	"slices"
	"strings"

	"loggia/api"
	"loggia/token"
)

// plainName tells by the words of chapter 7 whether bytes are a name.
func plainName(s string) bool {
	return len(s) >= 1 && len(s) <= 32 && strings.Trim(s, "abcdefghijklmnopqrstuvwxyz0123456789_") == ""
}

// plainCheck is what Check is to answer, by the chapter's words.
func plainCheck(e api.Event) api.Errno {
	if len(e.Fields) > 16 {
		return 3
	}
	for i := 0; i < len(e.Fields); i++ {
		if !plainName(e.Fields[i].Name) {
			return 100
		}
		if len(e.Fields[i].Text) > 4096 {
			return 2
		}
	}
	return 0
}

// plainSize is an event's size: its names and texts as one text, and 16.
func plainSize(e api.Event) int {
	all := ""
	for _, f := range e.Fields {
		all += f.Name + f.Text
	}
	return len(all) + 16
}

// plainCheckBatch is what CheckBatch is to answer; the last number has no bound here.
func plainCheckBatch(b api.Batch) api.Errno {
	if len(b.Events) == 0 {
		return 1
	}
	if len(b.Events) > 64 {
		return 3
	}
	sum := 0
	for _, e := range b.Events {
		if x := plainCheck(e); x != 0 {
			return x
		}
		sum += plainSize(e)
	}
	if sum > 65536 {
		return 2
	}
	last := big.NewInt(int64(b.Seq))
	last.Add(last, big.NewInt(int64(len(b.Events)-1)))
	if b.Seq < 1 || last.Cmp(big.NewInt(1099511627776)) > 0 {
		return 5
	}
	return 0
}

// plainNumber is a number's bytes by the words of chapter 2.
func plainNumber(n *big.Int) string {
	var l []byte
	n = new(big.Int).Set(n)
	for {
		low := new(big.Int)
		n.DivMod(n, big.NewInt(128), low)
		l = append(l, byte(low.Int64()))
		if n.Sign() == 0 {
			break
		}
	}
	for i := 0; i < len(l)-1; i++ {
		l[i] += 128
	}
	return string(l)
}

// count is the bytes of a number that is not below 0.
func count(n int) string { return plainNumber(big.NewInt(int64(n))) }

// whole is the bytes of a whole number's zigzag.
func whole(n int) string {
	z := big.NewInt(int64(n))
	if n >= 0 {
		return plainNumber(z.Mul(z, big.NewInt(2)))
	}
	z.Mul(z, big.NewInt(-2))
	return plainNumber(z.Sub(z, big.NewInt(1)))
}

// text is the bytes of a text.
func text(s string) string { return count(len(s)) + s }

// plainBytes is an event's bytes by the chapter's words.
func plainBytes(e api.Event) string {
	s := whole(e.At) + count(len(e.Fields))
	for _, f := range e.Fields {
		s += text(f.Name) + text(f.Text)
	}
	return s
}

// plainEncode is a batch's bytes by the chapter's words.
func plainEncode(b api.Batch) string {
	s := count(b.Seq) + count(len(b.Events))
	for _, e := range b.Events {
		s += plainBytes(e)
	}
	return s
}

// loose takes numbers and texts from bytes, told as long as one likes, and of any size; it takes no more than 70 fields or events, which is more than may be.
type loose struct {
	left string
	odd  bool
}

func (x *loose) number() uint64 {
	n, size := binary.Uvarint([]byte(x.left[:min(len(x.left), 10)]))
	if size <= 0 {
		x.odd, x.left = true, ""
		return 0
	}
	x.left = x.left[size:]
	return n
}

func (x *loose) text() string {
	n := x.number()
	if n > uint64(len(x.left)) {
		x.odd, x.left = true, ""
		return ""
	}
	s := x.left[:n]
	x.left = x.left[n:]
	return s
}

func (x *loose) event() api.Event {
	z := x.number()
	e := api.Event{At: int(z / 2)}
	if z%2 == 1 {
		e.At = -1 - int(z/2)
	}
	for range min(x.number(), 70) {
		name := x.text()
		e.Fields = append(e.Fields, api.Field{Name: name, Text: x.text()})
	}
	return e
}

// plainGet is what Get is to answer: the event, and how many bytes it has, if what is read stands there as an event that may be has to.
func plainGet(s string) (api.Event, int, bool) {
	x := loose{left: s}
	e := x.event()
	if x.odd || plainCheck(e) != 0 || !strings.HasPrefix(s, plainBytes(e)) {
		return api.Event{}, 0, false
	}
	return e, len(plainBytes(e)), true
}

// plainDecode is what Decode is to answer, found likewise.
func plainDecode(s string) (api.Batch, bool) {
	x := loose{left: s}
	seq := x.number()
	b := api.Batch{Seq: int(min(seq, math.MaxInt64))}
	for range min(x.number(), 70) {
		b.Events = append(b.Events, x.event())
	}
	if x.odd || plainCheckBatch(b) != 0 || plainEncode(b) != s {
		return api.Batch{}, false
	}
	return b, true
}

// plainTerms is what Terms is to answer: each word of each field is put under its term, with the place that the chapter gives to it.
func plainTerms(e api.Event) []Term {
	if plainCheck(e) != 0 {
		return nil
	}
	places := map[string][]int{}
	for i, f := range e.Fields {
		base := 0
		for _, ahead := range e.Fields[:i] {
			base += 64 + len(token.Words(ahead.Text))
		}
		for j, w := range token.Words(f.Text) {
			places[f.Name+":"+w] = append(places[f.Name+":"+w], base+j)
		}
	}
	var names []string
	for s := range places {
		names = append(names, s)
	}
	slices.Sort(names)
	var l []Term
	for _, s := range names {
		slices.Sort(places[s])
		l = append(l, Term{S: s, Pos: places[s]})
	}
	return l
}

// plainSame tells whether two events are the same.
func plainSame(a, b api.Event) bool {
	if a.At != b.At || len(a.Fields) != len(b.Fields) {
		return false
	}
	for i := range a.Fields {
		if a.Fields[i].Name != b.Fields[i].Name || a.Fields[i].Text != b.Fields[i].Text {
			return false
		}
	}
	return true
}

// sameAll tells whether two rows of events are the same.
func sameAll(a, b []api.Event) bool { return slices.EqualFunc(a, b, plainSame) }

// sameTerms tells whether two rows of terms are the same.
func sameTerms(a, b []Term) bool {
	return slices.EqualFunc(a, b, func(x, y Term) bool { return x.S == y.S && slices.Equal(x.Pos, y.Pos) })
}

// copyOf is an event like this one, in other memory.
func copyOf(e api.Event) api.Event {
	return api.Event{At: e.At, Fields: append([]api.Field(nil), e.Fields...)}
}

// copyOfAll is a batch like this one, in other memory.
func copyOfAll(b api.Batch) api.Batch {
	c := api.Batch{Seq: b.Seq}
	for _, e := range b.Events {
		c.Events = append(c.Events, copyOf(e))
	}
	return c
}

// oddTimes are times at the ends, and where a number's bytes become more.
var oddTimes = []int{0, 1, -1, 63, 64, -64, -65, 8191, 8192, -8192, -8193, math.MaxInt32, math.MinInt32, math.MaxInt - 1, math.MaxInt, math.MinInt + 1, math.MinInt}

// someNames are names that may be; some are the beginning of others.
var someNames = []string{"a", "a0", "a_", "aa", "b", "msg", "m", "0", "_", "host", strings.Repeat("n", 31), strings.Repeat("n", 32)}

// badNames may not be.
var badNames = []string{"", "A", "a-", "-", "a b", " ", ":", "a:b", "a:", "\x00", "\xff", "é", "aé", "a.b", "/", "{", "`", "^", strings.Repeat("n", 33), strings.Repeat("n", 300), strings.Repeat("n", 31) + "N"}

// someWords are what texts are made of: words, some the beginning of others, in any case, and what is none.
var someWords = []string{"a", "A", "b", "aa", "ab", "a0", "disk", "Disk", "full", "É", "é", "12ß", "x:y", "-", "!", "\xff", "\x00", "€", strings.Repeat("w", 40), "a_b"}

// randomText is a text of up to n words, or of any bytes.
func randomText(r *rand.Rand, n int) string {
	if r.Intn(8) == 0 {
		b := make([]byte, r.Intn(8*n+1))
		r.Read(b)
		return string(b)
	}
	var l []string
	for range r.Intn(n + 1) {
		l = append(l, someWords[r.Intn(len(someWords))])
	}
	return strings.Join(l, []string{" ", " ", ", ", ""}[r.Intn(4)])
}

// randomEvent is an event that may be.
func randomEvent(r *rand.Rand) api.Event {
	e := api.Event{At: int(r.Uint64()) >> r.Intn(64)}
	if r.Intn(4) == 0 {
		e.At = oddTimes[r.Intn(len(oddTimes))]
	}
	for range r.Intn(17) * r.Intn(17) / 16 {
		e.Fields = append(e.Fields, api.Field{Name: someNames[r.Intn(len(someNames))], Text: randomText(r, 12)})
	}
	return e
}

// randomBatch is a batch that may be, of up to n events.
func randomBatch(r *rand.Rand, n int) api.Batch {
	b := api.Batch{Seq: 1 + r.Intn(1<<(1+r.Intn(40)))}
	for range 1 + r.Intn(n) {
		b.Events = append(b.Events, randomEvent(r))
	}
	b.Seq = min(b.Seq, 1<<40-len(b.Events)+1)
	for plainCheckBatch(b) != 0 { // the sizes are too great together
		b.Events = b.Events[1:]
	}
	return b
}

// turned is an event in which one thing is another one, so that it may often not be.
func turned(r *rand.Rand, e api.Event) api.Event {
	e = copyOf(e)
	if len(e.Fields) == 0 || r.Intn(8) == 0 {
		e.Fields = append(e.Fields, make([]api.Field, r.Intn(18))...)
		return e
	}
	f := &e.Fields[r.Intn(len(e.Fields))]
	switch r.Intn(5) {
	case 0:
		f.Name = badNames[r.Intn(len(badNames))]
	case 1:
		f.Text = strings.Repeat("x", 4094+r.Intn(6))
	case 2:
		for range 10 + r.Intn(8) {
			e.Fields = append(e.Fields, *f)
		}
	case 3:
		f.Name = someNames[r.Intn(len(someNames))] + f.Name
	case 4:
		f.Text = randomText(r, 1200)
	}
	return e
}
