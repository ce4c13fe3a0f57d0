package segment

import (
	"encoding/binary"
	"hash/crc32"
	"hash/fnv"
	"slices"
	"strings"

	"loggia/api"
)

// number is a number's bytes.
func number(n int) string { return string(binary.AppendUvarint(nil, uint64(n))) }

// whole is the bytes of a whole number's zigzag.
func whole(n int) string { return string(binary.AppendVarint(nil, int64(n))) }

// text is a text's bytes.
func text(s string) string { return number(len(s)) + s }

// frameOf is the frame of a payload.
func frameOf(s string) string {
	head := number(len(s))
	return head + string(binary.BigEndian.AppendUint32(nil, crc32.ChecksumIEEE([]byte(head+s)))) + s
}

// plainMay tells by the words of chapters 10 and 12 whether a row of docs may be.
func plainMay(l []api.Doc) bool {
	for i, d := range l {
		if d.Seq < 1 || d.Seq > 1099511627776 || i > 0 && l[i-1].Seq >= d.Seq || len(d.E.Fields) > 16 {
			return false
		}
		for _, f := range d.E.Fields {
			if len(f.Name) < 1 || len(f.Name) > 32 || strings.Trim(f.Name, "abcdefghijklmnopqrstuvwxyz0123456789_") != "" || len(f.Text) > 4096 {
				return false
			}
		}
	}
	return len(l) <= 65536
}

// plainDocs are the bytes of a row of docs by the words of chapter 12, also of one that may not be.
func plainDocs(l []api.Doc) string {
	var heads, bodies strings.Builder
	heads.WriteString(number(len(l)))
	ahead := 0
	for some := range slices.Chunk(l, 16) {
		start := bodies.Len()
		for _, d := range some {
			bodies.WriteString(number(d.Seq-ahead-1) + whole(d.E.At) + number(len(d.E.Fields)))
			for _, f := range d.E.Fields {
				bodies.WriteString(text(f.Name) + text(f.Text))
			}
			ahead = d.Seq
		}
		heads.WriteString(number(ahead) + number(bodies.Len()-start))
	}
	return heads.String() + bodies.String()
}

// plainTimes are the bytes of each doc's time.
func plainTimes(l []api.Doc) []string {
	var s []string
	ahead := 0
	for _, d := range l {
		s = append(s, whole(d.E.At-ahead)) // at 64 bits it goes round
		ahead = d.E.At
	}
	return s
}

// plainWords are the words of a text by chapters 1 and 7.
func plainWords(s string) []string {
	var words []string
	open, full := false, false
	for _, r := range s {
		upper := r >= 'A' && r <= 'Z' || r >= 192 && r <= 222 && r != 215 || r >= 913 && r <= 939 && r != 930 || r >= 1040 && r <= 1071
		switch {
		case upper:
			r += 32
		case r >= 1024 && r <= 1039:
			r += 80
		}
		if part := r >= '0' && r <= '9' || r >= 'a' && r <= 'z' || r >= 192 && r <= 255 && r != 215 && r != 247 || r >= 913 && r <= 974 && r != 930 || r >= 1024 && r <= 1119; !part {
			open = false
			continue
		}
		if !open {
			words = append(words, "")
			open, full = true, false
		}
		last := &words[len(words)-1]
		full = full || len(*last)+len(string(r)) > 32
		if !full {
			*last += string(r)
		}
	}
	return words
}

// found is a term, and its posts.
type found struct {
	term  string
	posts []api.Post
}

// plainFound are the terms of docs, rising, and their posts, by the chapter's words and those of chapter 10.
func plainFound(docs []api.Doc) []found {
	m := map[string][]api.Post{}
	for i, d := range docs {
		base := 0
		for _, f := range d.E.Fields {
			words := plainWords(f.Text)
			for k, w := range words {
				l := m[f.Name+":"+w]
				if len(l) == 0 || l[len(l)-1].Doc != i {
					l = append(l, api.Post{Doc: i})
				}
				l[len(l)-1].Pos = append(l[len(l)-1].Pos, base+k)
				m[f.Name+":"+w] = l
			}
			base += 64 + len(words)
		}
	}
	var l []found
	for term, posts := range m {
		l = append(l, found{term, posts})
	}
	slices.SortFunc(l, func(a, b found) int { return strings.Compare(a.term, b.term) })
	return l
}

// plainRow are the bytes of a row of posts by the words of chapter 8.
func plainRow(l []api.Post) string {
	heads, bodies := number(len(l)), ""
	ahead := -1
	for some := range slices.Chunk(l, 32) {
		body := ""
		for _, p := range some {
			body += number(p.Doc-ahead-1) + number(len(p.Pos))
			ahead = p.Doc
			place := -1
			for _, x := range p.Pos {
				body += number(x - place - 1)
				place = x
			}
		}
		heads += number(ahead) + number(len(body))
		bodies += body
	}
	return heads + bodies
}

// plainDict are the bytes of a dictionary by the words of chapter 11, also of entries that may not be.
func plainDict(l []api.Entry) string {
	var all strings.Builder
	all.WriteString(number(len(l)))
	for some := range slices.Chunk(l, 16) {
		block, ahead := "", ""
		for _, e := range some {
			n := len(e.Term)
			for !strings.HasPrefix(ahead, e.Term[:n]) {
				n--
			}
			block += number(n) + text(e.Term[n:]) + number(e.Off) + number(e.Len) + number(e.N)
			ahead = e.Term
		}
		all.WriteString(text(block))
	}
	return all.String()
}

// plainBits are the bits of a text in a filter of m bits, by the words of chapter 9.
func plainBits(s string, m int) []int {
	h := fnv.New64a()
	h.Write([]byte(s))
	first, second := h.Sum64()%(1<<32), h.Sum64()>>32|1
	var l []int
	for i := range uint64(4) {
		l = append(l, int((first+i*second)%uint64(m)))
	}
	return l
}

// plainFilter are the bytes of a filter of m bits with these terms.
func plainFilter(m int, terms ...string) string {
	b := make([]byte, m/8)
	for _, s := range terms {
		for _, k := range plainBits(s, m) {
			b[k/8] |= 1 << (k % 8)
		}
	}
	return string(b)
}

// plainRoom is how many bits a filter for n terms has.
func plainRoom(n int) int { return (min(max(10*n, 64), 1<<20) + 7) / 8 * 8 }

// told is what a segment's bytes tell, so that something of it can be told wrong.
type told struct {
	docs    string
	times   []string
	rows    []string
	entries []api.Entry
	filter  string
	footer  []string
}

// plainTold is what the bytes of a segment of docs tell by the chapter's words, also of docs that may not be, or of none.
func plainTold(docs []api.Doc) told {
	t := told{docs: plainDocs(docs), times: plainTimes(docs), footer: []string{whole(0), whole(0), whole(0), whole(0), whole(0)}}
	var terms []string
	off := 0
	for _, f := range plainFound(docs) {
		row := plainRow(f.posts)
		t.rows = append(t.rows, row)
		t.entries = append(t.entries, api.Entry{Term: f.term, Off: off, Len: len(row), N: len(f.posts)})
		terms = append(terms, f.term)
		off += len(row)
	}
	t.filter = plainFilter(plainRoom(len(terms)), terms...)
	if len(docs) > 0 {
		low, high := docs[0].E.At, docs[0].E.At
		for _, d := range docs {
			low, high = min(low, d.E.At), max(high, d.E.At)
		}
		t.footer = []string{whole(low), whole(high), whole(docs[0].Seq), whole(docs[len(docs)-1].Seq), whole(len(docs))}
	}
	return t
}

// sections are the six sections that tell that.
func (t told) sections() []string {
	return []string{t.docs, strings.Join(t.times, ""), strings.Join(t.rows, ""), plainDict(t.entries), t.filter, strings.Join(t.footer, "")}
}

// bytes are the bytes that tell that.
func (t told) bytes() string { return bytesOf(t.sections()...) }

// bytesOf are a segment's bytes that have these sections.
func bytesOf(sections ...string) string {
	s := []string{"\x4c\x53\x45\x47"}
	for _, section := range sections {
		s = append(s, frameOf(section))
	}
	return strings.Join(s, "")
}

// copy is what tells the same, in other memory.
func (t told) copy() told {
	t.times, t.rows, t.entries, t.footer = slices.Clone(t.times), slices.Clone(t.rows), slices.Clone(t.entries), slices.Clone(t.footer)
	return t
}

// plainBytes are the bytes of a segment of docs by the chapter's words, also of docs that may not be, or of none.
func plainBytes(docs []api.Doc) string { return plainTold(docs).bytes() }

// loose takes numbers and texts from bytes, told as long as one likes; numbers above 2^41 count as 2^41, which may nowhere be but in a time.
type loose struct {
	left string
	odd  bool
}

func (x *loose) any() uint64 {
	n, size := binary.Uvarint([]byte(x.left[:min(len(x.left), 10)]))
	if size <= 0 {
		x.odd, x.left = true, ""
		return 0
	}
	x.left = x.left[size:]
	return n
}

func (x *loose) number() int { return int(min(x.any(), 1<<41)) }

func (x *loose) take(n int) string {
	if n > len(x.left) {
		x.odd, x.left = true, ""
		return ""
	}
	s := x.left[:n]
	x.left = x.left[n:]
	return s
}

func (x *loose) text() string { return x.take(x.number()) }

func (x *loose) event() api.Event {
	z := x.any()
	e := api.Event{At: int(z / 2)}
	if z%2 == 1 {
		e.At = -1 - int(z/2)
	}
	for range min(x.number(), 70) {
		name := x.text()
		e.Fields = append(e.Fields, api.Field{Name: name, Text: x.text()})
	}
	return e
}

func (x *loose) docs() []api.Doc {
	n := x.number()
	for i := 0; i < n && !x.odd; i += 16 {
		x.number()
		x.number()
	}
	var l []api.Doc
	seq := 0
	for i := 0; i < n && !x.odd; i++ {
		seq += x.number() + 1
		l = append(l, api.Doc{Seq: seq, E: x.event()})
	}
	return l
}

// plainOpen are the docs of the segment that has these (few) bytes: those that the first section tells, if they may be and have just these bytes.
func plainOpen(s string) ([]api.Doc, bool) {
	x := loose{left: s}
	x.take(4)
	n := x.number()
	x.take(4)
	y := loose{left: x.take(n)}
	l := y.docs()
	if x.odd || y.odd || len(l) == 0 || !plainMay(l) || plainBytes(l) != s {
		return nil, false
	}
	return l, true
}

// sectionsOfBytes are the sections that stand in a segment's bytes.
func sectionsOfBytes(s string) []string {
	x := loose{left: s[4:]}
	var l []string
	for x.left != "" {
		n := x.number()
		x.take(4)
		l = append(l, x.take(n))
	}
	return l
}

// plainSame tells whether two rows of docs are the same.
func plainSame(a, b []api.Doc) bool {
	return slices.EqualFunc(a, b, func(a, b api.Doc) bool {
		return a.Seq == b.Seq && a.E.At == b.E.At && slices.Equal(a.E.Fields, b.E.Fields)
	})
}

// samePosts tells whether two rows of posts are the same.
func samePosts(a, b []api.Post) bool {
	return slices.EqualFunc(a, b, func(a, b api.Post) bool { return a.Doc == b.Doc && slices.Equal(a.Pos, b.Pos) })
}

// copyOfAll is a row of docs like this one, in other memory.
func copyOfAll(l []api.Doc) []api.Doc {
	var c []api.Doc
	for _, d := range l {
		c = append(c, api.Doc{Seq: d.Seq, E: api.Event{At: d.E.At, Fields: append([]api.Field(nil), d.E.Fields...)}})
	}
	return c
}
