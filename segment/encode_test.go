package segment

import (
	"fmt"
	"math/rand"
	"slices"
	"strings"
	"testing"

	"loggia/api"
)

// exampleBytes are those of one doc without fields, of number 1 and time 0: a segment without terms, whose filter has 64 bits.
const exampleBytes = "\x4c\x53\x45\x47\x06\x1a\x35\xbf\xbf\x01\x01\x03\x00\x00\x00\x01\x58\xc2\x23\xbe\x00\x00\xd2\x02\xef\x8d\x01\x58\xc2\x23\xbe\x00\x08\x5d\xd1\xb6\xb6\x00\x00\x00\x00\x00\x00\x00\x00\x05\x3e\xb3\xe7\xd0\x00\x00\x02\x02\x02"

// knownBytes are those of knownDocs.
const knownBytes = "LSEG" +
	"\x1f\xa2\x7d\x60\xeb\x02\xac\x02\x1b\x02\x01\x01\x03\x6d\x73\x67\x05\x62\x20\x61\x20\x62\xa8\x02\x80\x01\x02\x03\x6d\x73\x67\x01\x41\x01\x7a\x00" +
	"\x03\x4c\x81\xd0\x9a\x01\x82\x01" +
	"\x10\x72\x03\x13\x9d\x02\x01\x06\x00\x01\x01\x00\x01\x00\x01\x00\x04\x00\x02\x00\x01" +
	"\x12\x80\x56\x6d\x7a\x02\x10\x00\x05\x6d\x73\x67\x3a\x61\x00\x09\x02\x04\x01\x62\x09\x07\x01" +
	"\x08\x64\x7d\x98\x84\x00\x08\x80\x00\x10\x00\x02\x40" +
	"\x07\x2f\xb0\xda\xe5\x01\x80\x01\x06\xd8\x04\x04"

// knownDocs have the terms msg:a and msg:b.
func knownDocs() []api.Doc {
	return []api.Doc{doc(3, -1, "msg", "b a b"), doc(300, 64, "msg", "A", "z", "")}
}

// checkEncode holds Encode of a row against the chapter's words, and answers the bytes.
func checkEncode(t *testing.T, l []api.Doc) string {
	t.Helper()
	was, want, x := copyOfAll(l), "", api.ErrSegment
	if len(l) > 0 && plainMay(l) {
		want, x = plainBytes(l), api.OK
	}
	b, e := Encode(l...)
	if e != x || string(b) != want {
		t.Fatalf("Encode of %s: %.200x, %d, not %.200x, %d", short(l), b, e, want, x)
	}
	if !plainSame(l, was) {
		t.Fatal("Encode changes what is handed in")
	}
	return want
}

// encoded are the bytes of a row that may be.
func encoded(t *testing.T, l []api.Doc) string {
	t.Helper()
	b, e := Encode(l...)
	if e != api.OK {
		t.Fatalf("Encode of %s: %d", short(l), e)
	}
	return string(b)
}

func TestP13_1Example(t *testing.T) {
	for _, l := range [][]api.Doc{{doc(1, 0)}, {{Seq: 1, E: api.Event{Fields: []api.Field{}}}}} {
		if b, e := Encode(l...); e != 0 || string(b) != exampleBytes {
			t.Errorf("%v: %x, %d", l, b, e)
		}
	}
	s, e := Open([]byte(exampleBytes))
	if e != 0 || s.Terms() != 0 || len(s.Prefix("")) != 0 || s.Len() != 1 || !plainSame(s.Docs(), bare(1)) {
		t.Fatal(e)
	}
	if sections := sectionsOfBytes(exampleBytes); len(sections[4])*8 != 64 || strings.Trim(sections[4], "\x00") != "" {
		t.Errorf("%x", sections[4])
	}
	for _, term := range []string{"", "a", "msg:a"} {
		if s.May(term) || len(s.Posts(term)) > 0 {
			t.Errorf("it may have %q", term)
		}
	}
}

func TestP13_1EncodeOfKnown(t *testing.T) {
	if b, e := Encode(knownDocs()...); e != 0 || string(b) != knownBytes {
		t.Errorf("%x, %d", b, e)
	}
	s, e := Open([]byte(knownBytes))
	if e != 0 {
		t.Fatal(e)
	}
	if !plainSame(s.Docs(), knownDocs()) || s.Part() != (api.Part{Low: -1, High: 64, First: 3, Last: 300, N: 2}) {
		t.Error(s.Docs(), s.Part())
	}
	if a, b := s.Posts("msg:a"), s.Posts("msg:b"); !samePosts(a, []api.Post{{Doc: 0, Pos: []int{1}}, {Doc: 1, Pos: []int{0}}}) || !samePosts(b, []api.Post{{Doc: 0, Pos: []int{0, 2}}}) {
		t.Error(a, b)
	}
}

func TestP13_1Encode(t *testing.T) {
	for _, l := range goodRows() {
		if checkEncode(t, l) == "" {
			t.Fatalf("%s may not be", short(l))
		}
	}
	r := rand.New(rand.NewSource(2))
	for i := range 1500 {
		checkEncode(t, turned(r, randomRow(r, 1+i%60)))
	}
}

func TestP13_1EncodeOfNoRow(t *testing.T) {
	refuse := func(l ...api.Doc) {
		t.Helper()
		if b, e := Encode(l...); len(b) > 0 || e != 130 {
			t.Fatalf("Encode of %s: %.80x, %d", short(l), b, e)
		}
	}
	refuse()
	refuse([]api.Doc{}...)
	refuse([]api.Doc(nil)...)
	for _, l := range badRows() {
		refuse(l...)
	}
	refuse(bare(slices.Collect(upTo(65537))...)...)
	refuse(make([]api.Doc, 1<<20)...)
	var long []api.Doc // their texts are too long together besides
	for i := range 300 {
		long = append(long, alike(i+1, 16, "a", strings.Repeat("-", 4096)))
	}
	for _, i := range []int{0, 1, 150, 298, 299} {
		for _, d := range []api.Doc{{Seq: 0}, {Seq: -1, E: long[i].E}, {Seq: 1<<40 + 1}, {Seq: i + 1, E: oddEvents()[0]}, {Seq: i + 1, E: oddEvents()[9]}} {
			l := slices.Clone(long)
			l[i] = d
			refuse(l...)
		}
	}
	long[299].Seq = 299
	refuse(long...)
}

// upTo are the numbers from 1 to n.
func upTo(n int) func(func(int) bool) {
	return func(yield func(int) bool) {
		for i := range n {
			if !yield(i + 1) {
				return
			}
		}
	}
}

// sizesOf are how many bytes each section has in a segment's bytes.
func sizesOf(s string) []int {
	var l []int
	for _, section := range sectionsOfBytes(s) {
		l = append(l, len(section))
	}
	return l
}

// checkMost says that of docs that section has just MaxFrame bytes, all others having fewer, if enough bytes stand behind the last field's text; and that one byte more is too many.
func checkMost(t *testing.T, l []api.Doc, section int, more func(n int) string) {
	t.Helper()
	fields := l[len(l)-1].E.Fields
	f := &fields[len(fields)-1]
	begin := f.Text
	left := 1<<24 - sizesOf(encoded(t, l))[section]
	f.Text = begin + more(left)
	s := encoded(t, l)
	for i, size := range sizesOf(s) {
		if (i == section) != (size == 1<<24) || size > 1<<24 {
			t.Fatalf("with %d bytes behind, the section %d has %d bytes", left, i, size)
		}
	}
	if back, e := Open([]byte(s)); e != api.OK || !plainSame(back.Docs(), l) {
		t.Fatalf("Open of a section with %d bytes behind: %d", left, e)
	}
	for _, n := range []int{left + 1, left + 12} {
		f.Text = begin + more(n)
		if b, e := Encode(l...); len(b) > 0 || e != api.ErrLong {
			t.Fatalf("with %d bytes behind, not %d: %d bytes, %d", n, left, len(b), e)
		}
	}
}

func TestP13_1LongDocs(t *testing.T) {
	dashes := func(n int) string { return strings.Repeat("-", n) }
	var few, lots []api.Doc
	for i := range 255 {
		few = append(few, alike(i+1, 16, "a", dashes(4096)))
	}
	for i := 255; i < 271; i++ {
		few = append(few, doc(i+1, 0, "a", dashes(3000)))
	}
	checkMost(t, few, 0, dashes)
	for i := range 65536 { // the events' sizes are far more together
		lots = append(lots, doc(i+1, 0, "b", dashes(248)))
	}
	for i := range 16 {
		lots[i*4000].E.Fields[0].Text = dashes(3000)
	}
	lots[65535] = doc(65536, 0, "b", "", "b", dashes(1200))
	checkMost(t, lots, 0, dashes)
	for _, d := range []api.Doc{alike(300, 16, "a", dashes(4096)), doc(300, 0)} {
		if b, e := Encode(append(few[:271:271], d)...); len(b) > 0 || e != 2 {
			t.Errorf("%d bytes, %d", len(b), e)
		}
	}
	var all []api.Doc
	for i := range 20000 { // more than 2^30 bytes
		all = append(all, alike(i+1, 16, "a", few[0].E.Fields[0].Text))
	}
	if b, e := Encode(all...); len(b) > 0 || e != 2 {
		t.Errorf("%d bytes, %d", len(b), e)
	}
}

func TestP13_1LongRows(t *testing.T) {
	words := "a b c d e f g h i j k l m n o p q r s t u v w x y z 0 1 2 3 4 5 6 7 8 9"
	var fields []string
	for _, name := range strings.Fields(words)[:16] {
		fields = append(fields, name, words)
	}
	var l []api.Doc
	for i := range 7262 { // each word of one byte makes a post of four
		l = append(l, doc(i+1, 0, fields...))
	}
	l = append(l, doc(1<<20, 0, fields[:20]...), doc(1<<20+1, 0, append(fields[:24:24], "m", words[:39], "l", "b b b b b b b b")...))
	checkMost(t, l, 2, func(n int) string { return strings.Repeat(" b", n) })
}

func TestP13_1LongDictionary(t *testing.T) {
	var l []api.Doc
	for i := range 241920 { // fields with names that begin apart as early as can be, each with one word
		if i%16 == 0 {
			l = append(l, doc(len(l)+1, 0))
		}
		name := []byte(strings.Repeat("n", 32))
		for k, n := 0, i; k < 4; k, n = k+1, n/37 {
			name[3-k] = "0123456789_abcdefghijklmnopqrstuvwxyz"[n%37]
		}
		e := &l[len(l)-1].E
		e.Fields = append(e.Fields, api.Field{Name: string(name), Text: strings.Repeat("w", 32)})
	}
	l[0].E.Fields[0].Text += " v"
	fields := l[len(l)-1].E.Fields
	fields[len(fields)-1].Text = "wwwww"
	checkMost(t, l, 3, func(n int) string { return strings.Repeat("w", min(n, 27)) + strings.Repeat(" v", max(n-27, 0)) })
}

func TestP13_1MostTerms(t *testing.T) {
	var l []api.Doc
	var words []string
	flush := func() {
		l = append(l, doc(len(l)+1, 0, "msg", strings.Join(words, " ")))
		words = nil
	}
	for i := range 1 << 18 {
		if words = append(words, fmt.Sprintf("%05x", i)); len(words) == 600 {
			flush()
		}
	}
	flush()
	l = append(l, doc(1000, 0, "msg", "00000"), doc(2000, 0, "msg", "3FFFF 3ffff"))
	s := checkEncode(t, l)
	back, e := Open([]byte(s))
	if e != api.OK || back.Terms() != 262144 || sizesOf(s)[4] != 131072 {
		t.Fatal(e)
	}
	for _, d := range []api.Doc{doc(3000, 0, "msg", "40000"), doc(3000, 0, "n", "00000"), doc(3000, 0, "msg", "x "+numbered(600))} {
		if b, e := Encode(append(l[:len(l):len(l)], d)...); len(b) > 0 || e != 2 {
			t.Errorf("%d bytes, %d", len(b), e)
		}
		if _, e := Open([]byte(plainBytes(append(l[:len(l):len(l)], d)))); e != 130 {
			t.Error(e)
		}
	}
	checkEncode(t, append(l, doc(3000, 0, "msg", "0ABCD")))
}

func TestP13_1MostDocs(t *testing.T) {
	var l []api.Doc
	for i := range 65537 {
		l = append(l, doc(i+1, i%7, "n", fmt.Sprint(i%100)))
	}
	if b, e := Encode(l...); len(b) > 0 || e != api.ErrSegment {
		t.Errorf("Encode of 65537 docs: %d bytes, %d", len(b), e)
	}
	l = l[:65536]
	s, e := Open([]byte(checkEncode(t, l)))
	if e != api.OK || s.Len() != 65536 || !plainSame(s.Docs(), l) {
		t.Fatal(e)
	}
	if p := s.Posts("n:35"); len(p) != 656 || p[655].Doc != 65535 {
		t.Error(len(p))
	}
}
