package memidx

import (
	"fmt"
	"math"
	"math/rand"
	"slices"
	"strings"

	"loggia/api"
)

// plainName tells by the words of chapter 7 whether bytes are a name.
func plainName(s string) bool {
	return len(s) >= 1 && len(s) <= 32 && strings.Trim(s, "abcdefghijklmnopqrstuvwxyz0123456789_") == ""
}

// plainCheck is what is to be told of an event, by the words of chapter 10.
func plainCheck(e api.Event) api.Errno {
	if len(e.Fields) > 16 {
		return 3
	}
	for _, f := range e.Fields {
		if !plainName(f.Name) {
			return 100
		}
		if len(f.Text) > 4096 {
			return 2
		}
	}
	return 0
}

// plainSize is an event's size: its names and texts as one text, and 16.
func plainSize(e api.Event) int {
	all := ""
	for _, f := range e.Fields {
		all += f.Name + f.Text
	}
	return len(all) + 16
}

// plainBatch is what is to be told of a batch alone, by the words of chapter 10.
func plainBatch(b api.Batch) api.Errno {
	if len(b.Events) == 0 {
		return 1
	}
	if len(b.Events) > 64 {
		return 3
	}
	sum := 0
	for _, e := range b.Events {
		if x := plainCheck(e); x != 0 {
			return x
		}
		sum += plainSize(e)
	}
	switch {
	case sum > 65536:
		return 2
	case b.Seq < 1, b.Seq > 1<<40, b.Seq+len(b.Events)-1 > 1<<40:
		return 5
	}
	return 0
}

// plainWords are the words of a text by chapters 1 and 7.
func plainWords(s string) []string {
	var words []string
	open, full := false, false
	for _, r := range s {
		upper := r >= 'A' && r <= 'Z' || r >= 192 && r <= 222 && r != 215 || r >= 913 && r <= 939 && r != 930 || r >= 1040 && r <= 1071
		switch {
		case upper:
			r += 32
		case r >= 1024 && r <= 1039:
			r += 80
		}
		if part := r >= '0' && r <= '9' || r >= 'a' && r <= 'z' || r >= 192 && r <= 255 && r != 215 && r != 247 || r >= 913 && r <= 974 && r != 930 || r >= 1024 && r <= 1119; !part {
			open = false
			continue
		}
		if !open {
			words = append(words, "")
			open, full = true, false
		}
		last := &words[len(words)-1]
		full = full || len(*last)+len(string(r)) > 32
		if !full {
			*last += string(r)
		}
	}
	return words
}

// stand is a word of an event: its term, and its place.
type stand struct {
	term  string
	place int
}

// plainStands are all words of an event, in order, by the words of chapter 10.
func plainStands(e api.Event) []stand {
	var l []stand
	base := 0
	for _, f := range e.Fields {
		words := plainWords(f.Text)
		for i, w := range words {
			l = append(l, stand{f.Name + ":" + w, base + i})
		}
		base += len(words) + 64
	}
	return l
}

// plain is what an index has: the docs, and each one's words. Whatever is asked, it looks at all of them.
type plain struct {
	docs   []api.Doc
	stands [][]stand
}

// add is what Add is to answer, and to do.
func (m *plain) add(b api.Batch) api.Errno {
	if e := plainBatch(b); e != 0 {
		return e
	}
	if n := len(m.docs); n > 0 && b.Seq != m.docs[n-1].Seq+1 {
		return 140
	}
	if len(m.docs)+len(b.Events) > 65536 {
		return 3
	}
	for i, e := range copyOfBatch(b).Events {
		m.docs = append(m.docs, api.Doc{Seq: b.Seq + i, E: e})
		m.stands = append(m.stands, plainStands(e))
	}
	return 0
}

// fork is another one like it.
func (m *plain) fork() *plain {
	return &plain{docs: slices.Clone(m.docs), stands: slices.Clone(m.stands)}
}

// size is the sizes of all events together.
func (m *plain) size() int {
	n := 0
	for _, d := range m.docs {
		n += plainSize(d.E)
	}
	return n
}

// times are the least and the greatest one.
func (m *plain) times() (int, int) {
	if len(m.docs) == 0 {
		return 0, 0
	}
	var l []int
	for _, d := range m.docs {
		l = append(l, d.E.At)
	}
	return slices.Min(l), slices.Max(l)
}

// seqs are the first and the last number.
func (m *plain) seqs() (int, int) {
	if len(m.docs) == 0 {
		return 0, 0
	}
	return m.docs[0].Seq, m.docs[len(m.docs)-1].Seq
}

// terms are all, rising.
func (m *plain) terms() []string {
	var l []string
	for _, stands := range m.stands {
		for _, s := range stands {
			l = append(l, s.term)
		}
	}
	slices.Sort(l)
	return slices.Compact(l)
}

// rowOf are the posts of all words whose terms are as asked for.
func (m *plain) rowOf(has func(term string) bool) []api.Post {
	var l []api.Post
	for i, stands := range m.stands {
		p := api.Post{Doc: i}
		for _, s := range stands {
			if has(s.term) {
				p.Pos = append(p.Pos, s.place) // words stand by rising places
			}
		}
		if len(p.Pos) > 0 {
			l = append(l, p)
		}
	}
	return l
}

// posts are a term's.
func (m *plain) posts(term string) []api.Post {
	return m.rowOf(func(s string) bool { return s == term })
}

// prefix are those of a beginning.
func (m *plain) prefix(begin string) []api.Post {
	return m.rowOf(func(s string) bool { return strings.HasPrefix(s, begin) })
}

// sameDocs tells whether two rows of docs are the same.
func sameDocs(a, b []api.Doc) bool {
	return slices.EqualFunc(a, b, func(a, b api.Doc) bool {
		return a.Seq == b.Seq && a.E.At == b.E.At && slices.Equal(a.E.Fields, b.E.Fields)
	})
}

// samePosts tells whether two rows of posts are the same.
func samePosts(a, b []api.Post) bool {
	return slices.EqualFunc(a, b, func(a, b api.Post) bool { return a.Doc == b.Doc && slices.Equal(a.Pos, b.Pos) })
}

// xs is a text of so many bytes.
func xs(n int) string { return strings.Repeat("x", n) }

// of is an event at a time, with fields of names and texts, by turns.
func of(at int, l ...string) api.Event {
	e := api.Event{At: at}
	for i := 0; i+1 < len(l); i += 2 {
		e.Fields = append(e.Fields, api.Field{Name: l[i], Text: l[i+1]})
	}
	return e
}

// alike is an event with n fields that are alike.
func alike(n int, name, text string) api.Event {
	return of(0, slices.Repeat([]string{name, text}, n)...)
}

// sized is an event that may be, of a size from 16 on, up to 16 times 4104 more.
func sized(n int) api.Event {
	var e api.Event
	for n -= 16; n > 0; {
		most := min(n, 8+4096)
		name := min(8, most)
		e.Fields = append(e.Fields, api.Field{Name: strings.Repeat("n", name), Text: xs(most - name)})
		n -= most
	}
	return e
}

// bare are n events of nothing but times.
func bare(n int) []api.Event {
	l := make([]api.Event, n)
	for i := range l {
		l[i].At = i
	}
	return l
}

// batch is a batch.
func batch(seq int, l ...api.Event) api.Batch { return api.Batch{Seq: seq, Events: l} }

// copyOfBatch is a batch like this one, in other memory.
func copyOfBatch(b api.Batch) api.Batch {
	c := api.Batch{Seq: b.Seq}
	for _, e := range b.Events {
		c.Events = append(c.Events, api.Event{At: e.At, Fields: append([]api.Field(nil), e.Fields...)})
	}
	return c
}

// oddTimes are times at the ends, and others.
var oddTimes = []int{0, 1, -1, 63, -64, math.MaxInt32, math.MinInt32, math.MaxInt - 1, math.MaxInt, math.MinInt + 1, math.MinInt}

// someNames are names that may be; some are the beginning of others.
var someNames = []string{"a", "a0", "a_", "aa", "msg", "m", "_", "host", strings.Repeat("n", 32)}

// someWords are what texts are made of: words, some the beginning of others, in any case, and what is none.
var someWords = []string{"a", "A", "b", "aa", "ab", "a0", "disk", "Disk", "full", "\xc3\x89", "\xc3\xa9", "12\xc3\x9f", "x:y", "-", "!", "\xff", "\x00", "\xe2\x82\xac", strings.Repeat("w", 40), "a_b", "\xd0\x96"}

// randomText is a text of up to n words, or of any bytes.
func randomText(r *rand.Rand, n int) string {
	if r.Intn(6) == 0 {
		b := make([]byte, r.Intn(n+1))
		r.Read(b)
		return string(b)
	}
	var l []string
	for range r.Intn(n + 1) {
		l = append(l, someWords[r.Intn(len(someWords))])
	}
	return strings.Join(l, " ")
}

// randomEvent is an event that may be.
func randomEvent(r *rand.Rand) api.Event {
	e := api.Event{At: int(r.Uint64()) >> r.Intn(64)}
	if r.Intn(4) == 0 {
		e.At = oddTimes[r.Intn(len(oddTimes))]
	}
	for range r.Intn(5) {
		e.Fields = append(e.Fields, api.Field{Name: someNames[r.Intn(len(someNames))], Text: randomText(r, 1<<r.Intn(5))})
	}
	return e
}

// randomEvents are from one event to n.
func randomEvents(r *rand.Rand, n int) []api.Event {
	var l []api.Event
	for range 1 + r.Intn(n) {
		l = append(l, randomEvent(r))
	}
	return l
}

// badBatch is a batch that may not be, and what is to be told of it.
type badBatch struct {
	b api.Batch
	x api.Errno
}

// badBatches are batches that may not be, each fault at the number from which one batch may go on, and some of them at others.
func badBatches(seq int) []badBatch {
	bad, none, long, lots := of(0, "A", ""), of(0, "", "x"), of(0, "a", xs(4097)), alike(17, "a", "")
	l := []badBatch{
		{batch(seq), 1}, {api.Batch{Seq: seq, Events: []api.Event{}}, 1}, {batch(0), 1}, {batch(-5), 1}, {batch(1 << 50), 1},
		{batch(seq, bare(65)...), 3}, {batch(seq, bare(1000)...), 3}, {batch(0, bare(65)...), 3}, {batch(seq, slices.Repeat([]api.Event{bad}, 65)...), 3},
		{batch(seq, bad), 100}, {batch(seq, none), 100}, {batch(seq, long), 2}, {batch(seq, lots), 3}, {batch(seq, of(0), bad, of(1)), 100}, {batch(seq, of(0), of(1), long), 2}, {batch(seq, of(0), lots, of(1)), 3},
		{batch(seq, of(0), bad, long, lots), 100}, {batch(seq, of(0), long, bad, lots), 2}, {batch(seq, lots, bad, long), 3}, {batch(seq, append(bare(63), bad)...), 100}, {batch(0, bad), 100}, {batch(1<<41, long), 2}, {batch(0, lots), 3},
		{batch(seq, sized(65537)), 2}, {batch(seq, sized(65536), of(0)), 2}, {batch(seq, sized(32768), sized(32769)), 2}, {batch(seq, slices.Repeat([]api.Event{sized(4000)}, 64)...), 2}, {batch(seq, sized(65536), of(0), bad), 100}, {batch(0, sized(65537)), 2}, {batch(1<<40+1, sized(65537)), 2},
	}
	for _, odd := range []int{0, -1, -2, math.MinInt, -1 << 40, 1<<40 + 1, 1<<40 + 2, 1 << 41, 1 << 62, math.MaxInt - 62, math.MaxInt - 1, math.MaxInt} {
		l = append(l, badBatch{batch(odd, of(0)), 5}, badBatch{batch(odd, of(0, "msg", "a"), of(1)), 5}, badBatch{batch(odd, bare(64)...), 5})
	}
	return append(l, badBatch{batch(1<<40, bare(2)...), 5}, badBatch{batch(1<<40-1, bare(3)...), 5}, badBatch{batch(1<<40-62, bare(64)...), 5})
}

// short is a row of docs for a message: how many there are, and the first few.
func short(l []api.Doc) string {
	return fmt.Sprintf("%d docs, %.200s", len(l), fmt.Sprint(l[:min(len(l), 4)]))
}
