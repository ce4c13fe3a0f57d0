package posting

import (
	"encoding/binary"
	"math"
	"math/rand"
	"slices"
	"strings"
	"testing"

	"loggia/api"
)

// at is a post.
func at(doc int, pos ...int) api.Post { return api.Post{Doc: doc, Pos: pos} }

// row is a row of posts.
func row(l ...api.Post) []api.Post { return l }

// from are n numbers from a first one on.
func from(first, n int) []int {
	var l []int
	for i := range n {
		l = append(l, first+i)
	}
	return l
}

// dense are n posts of the Docs from a first one on, each at 0.
func dense(first, n int) []api.Post {
	var l []api.Post
	for _, doc := range from(first, n) {
		l = append(l, at(doc, 0))
	}
	return l
}

// spread are n posts, of each third Doc from 10 on, at two places.
func spread(n int) []api.Post {
	var l []api.Post
	for i := range n {
		l = append(l, at(10+3*i, i, i+200))
	}
	return l
}

// counts are how many posts rows have whose last block is full, or has one more or less.
var counts = []int{0, 1, 2, 31, 32, 33, 63, 64, 65, 96, 97}

// goodRows are rows that may be: at the ends, about blocks, long ones, and random ones.
func goodRows() [][]api.Post {
	l := [][]api.Post{
		nil, {}, row(at(0, 0)), row(at(65535, 0)), row(at(0, 1048575)), row(at(65535, 1048575)), row(at(0, 0, 1048575)), row(at(0, 0), at(65535, 1048575)), row(at(0, 3, 5), at(2, 0)),
		row(at(127, 127)), row(at(128, 128)), row(at(0, 0, 128, 257), at(128, 0), at(257, 0)), row(at(0, 0, 129), at(129, 0)), row(at(16383, 16383), at(32768, 16384)),
		row(at(7, from(0, 127)...)), row(at(7, from(3, 128)...), at(8, from(1048575-300, 301)...)), row(at(0, from(0, 1048576)...)),
		dense(0, 65536), dense(65535-40, 41),
	}
	for _, n := range counts {
		l = append(l, dense(0, n), dense(5, n), dense(65536-n, n), spread(n))
	}
	r := rand.New(rand.NewSource(8))
	for i := range 600 {
		l = append(l, randomRow(r, r.Intn(1+i%140), 1<<(1+i%14)))
	}
	return l
}

// badRows are rows that may not be.
func badRows() [][]api.Post {
	l := [][]api.Post{
		row(at(-1, 0)), row(at(65536, 0)), row(at(0, -1)), row(at(0, 1048576)), row(at(0)), row(api.Post{Pos: []int{}}),
		row(at(math.MinInt, 0)), row(at(math.MaxInt, 0)), row(at(0, math.MinInt)), row(at(0, math.MaxInt)),
		row(at(3, 0), at(3, 0)), row(at(3, 0), at(3, 1)), row(at(3, 0), at(2, 0)), row(at(0, 4, 4)), row(at(0, 4, 3)), row(at(0, 1, 2, 2)), row(at(0, 1, 3, 2)), row(at(0, 2, 1, 3)),
		row(at(0, 0), at(1)), row(at(0), at(1, 0)), row(at(0, 0), at(-1, 0)), row(at(-1, 0), at(0, 0)), row(at(65535, 0), at(65536, 0)),
		row(at(0, -1, 0)), row(at(0, 0, -1)), row(at(0, 1048575, 1048576)), row(at(0, 0, 1048576)), row(at(0, from(0, 1048577)...)),
		row(at(math.MaxInt, 0), at(math.MinInt, 0)), row(at(0, math.MaxInt, math.MinInt)), row(at(0, 0), at(1, 0), at(0, 0)),
		append(dense(0, 65536), at(65536, 0)), append(dense(0, 65536), at(65535, 0)), append(dense(0, 65536), at(0, 0)),
	}
	for _, n := range []int{31, 32, 33, 64, 65} { // at the beginning and the end, in whichever block it is
		next := 9 + n
		l = append(l, append(dense(9, n), at(next-1, 0)), append(dense(9, n), at(next-2, 0)), append(dense(9, n), at(next)), append(dense(9, n), at(next, 2, 2)), append(row(at(9, 0)), dense(9, n)...), append(row(at(8)), dense(9, n)...))
	}
	return l
}

// oddBytes are no row's bytes.
func oddBytes() []string {
	l := []string{
		"", "\x01", "\x80", "\xff", "\x00\x00", "\x01\x00", "\x01\x00\x03", "\x01\x00\x03\x00\x01",
		"\x80\x00",                                                                             // no posts, told too long
		"\x02\x02\x07\x00\x02\x03\x01\x01\x01",                                                 // an end is missing
		"\x02\x02\x07\x00\x02\x03\x01\x01\x01\x00\x00",                                         // one byte more
		"\x01\x02\x07\x00\x02\x03\x01\x01\x01\x00", "\x03\x02\x07\x00\x02\x03\x01\x01\x01\x00", // another count
		"\x02\x01\x07\x00\x02\x03\x01\x01\x01\x00", "\x02\x03\x07\x00\x02\x03\x01\x01\x01\x00", // another last Doc
		"\x02\x02\x06\x00\x02\x03\x01\x01\x01\x00", "\x02\x02\x08\x00\x02\x03\x01\x01\x01\x00", // another length
		"\x01\x00\x02\x00\x00", "\x01\x00\x03\x00\x00\x00", // a post of no places
		"\x00\x00\x00", "\x00\x00\x03\x00\x01\x00", // no posts, and a block
		"\x02\x02\x80\x00\x00\x02\x03\x01\x01\x01\x00", "\x82\x00\x02\x07\x00\x02\x03\x01\x01\x01\x00", "\x02\x82\x00\x07\x00\x02\x03\x01\x01\x01\x00", "\x02\x02\x87\x00\x00\x02\x03\x01\x01\x01\x00", // told too long
		"\x01\x00\x04\x80\x00\x01\x00", "\x01\x00\x04\x00\x81\x00\x00", "\x01\x00\x04\x00\x01\x80\x00", // told too long, with the length that it has so
	}
	for _, big := range []uint64{1 << 16, 1<<16 + 1, 1 << 20, 1<<20 + 1, 1 << 31, 1 << 32, 1<<32 + 1, 1<<63 - 1, 1 << 63, 1<<63 + 1, math.MaxUint64 - 1, math.MaxUint64} {
		s := string(binary.AppendUvarint(nil, big))
		n := string([]byte{byte(2 + len(s))})
		two := string([]byte{byte(5 + len(s))})
		l = append(l, s, s+"\x00\x03\x00\x01\x00", "\x01"+s+"\x03\x00\x01\x00", "\x01\x00"+s+"\x00\x01\x00")  // the count, the last Doc, the length
		l = append(l, "\x01\x00"+n+"\x00"+s+"\x00", "\x01\x00"+n+"\x00"+s+"\x00"+strings.Repeat("\x00", 300)) // how many places
		l = append(l, "\x02\x01"+two+"\x01\x01\x00"+s+"\x01\x00", "\x02\x00"+two+"\x00\x01\x00"+s+"\x01\x00") // a gap of Docs, that may go round
		if big >= 1<<20 {
			l = append(l, "\x01\x00"+n+"\x00\x01"+s, "\x01\x00"+string([]byte{byte(3 + len(s))})+"\x00\x02\x01"+s) // a place, and a gap of places
		}
		if big < 1<<63 {
			l = append(l, "\x01"+s+n+s+"\x01\x00") // the Doc and the last Doc
		}
	}
	return append(l, "\x80\x80\x80\x80\x80\x80\x80\x80\x80\x02", "\x01\x80\x80\x80\x80\x80\x80\x80\x80\x80\x02", strings.Repeat("\xff", 1000), "\xff\xff\x03"+strings.Repeat("\x00", 1000), "\x80\x80\x04"+strings.Repeat("\x00", 200000))
}

// encoded is Encode of a row, which it neither refuses nor changes.
func encoded(t *testing.T, l []api.Post) string {
	t.Helper()
	before := copyOf(l)
	b, e := Encode(l)
	if e != api.OK {
		t.Fatalf("Encode of %d posts, %.100v: %d", len(l), l[:min(len(l), 5)], e)
	}
	if !plainSame(l, before) {
		t.Fatalf("Encode changes what is handed in: %.100v", l[:min(len(l), 5)])
	}
	return string(b)
}

// checkDecode holds Decode and Count of bytes against a row; not ok: they are none's.
func checkDecode(t *testing.T, s string, want []api.Post, ok bool) {
	t.Helper()
	why := api.OK
	if !ok {
		why = api.ErrPosting
		want = nil
	}
	b := []byte(s)
	l, e := Decode(b)
	if e != why || !plainSame(l, want) {
		t.Fatalf("Decode of %.60x (%d bytes): %.100v (%d posts), %d, not %.100v (%d posts), %d", s, len(s), l[:min(len(l), 5)], len(l), e, want[:min(len(want), 5)], len(want), why)
	}
	if n, e := Count(b); n != len(want) || e != why {
		t.Fatalf("Count of %.60x (%d bytes): %d, %d, not %d, %d", s, len(s), n, e, len(want), why)
	}
	if string(b) != s {
		t.Fatalf("Decode, or Count, changes what is handed in: %.60x", s)
	}
}

// checkFind holds Find of a Doc in bytes against the places of the post that it has; none: it has no post.
func checkFind(t *testing.T, s string, doc int, want []int) {
	t.Helper()
	b := []byte(s)
	pos, ok, e := Find(b, doc)
	if !slices.Equal(pos, want) || ok != (len(want) > 0) || e != api.OK {
		t.Fatalf("Find of %d in %.60x (%d bytes): %.60v, %v, %d, not %.60v", doc, s, len(s), pos, ok, e, want)
	}
	if string(b) != s {
		t.Fatalf("Find changes what is handed in: %.60x", s)
	}
}

// checkJoin holds Join of rows against the row that is wanted; not ok: there is none.
func checkJoin(t *testing.T, a, b []api.Post, by int, want []api.Post, ok bool) {
	t.Helper()
	why := api.OK
	if !ok {
		why = api.ErrPosting
		want = nil
	}
	beforeA, beforeB := copyOf(a), copyOf(b)
	l, e := Join(a, b, by)
	if e != why || !plainSame(l, want) {
		t.Fatalf("Join of %.60v (%d posts), %.60v (%d posts) by %d: %.60v (%d posts), %d, not %.60v (%d posts), %d", a[:min(len(a), 5)], len(a), b[:min(len(b), 5)], len(b), by, l[:min(len(l), 5)], len(l), e, want[:min(len(want), 5)], len(want), why)
	}
	if !plainSame(a, beforeA) || !plainSame(b, beforeB) {
		t.Fatalf("Join by %d changes what is handed in", by)
	}
}

func TestP8_1Check(t *testing.T) {
	for _, l := range goodRows() {
		if e := Check(l); e != api.OK || !plainMay(l) {
			t.Fatalf("Check of a row of %d posts, %.100v: %d", len(l), l[:min(len(l), 5)], e)
		}
	}
	for i, l := range badRows() {
		if e := Check(l); e != api.ErrPosting || plainMay(l) {
			t.Errorf("Check of the bad row %d, %.100v: %d", i, l[:min(len(l), 5)], e)
		}
	}
}

func TestP8_1CheckOfTurned(t *testing.T) {
	r := rand.New(rand.NewSource(81))
	refused := 0
	for i := range 20000 {
		l := randomRow(r, 1+r.Intn(1+i%70), 1<<(1+i%14))
		for range r.Intn(3) {
			if plainMay(l) {
				l = turned(r, l)
			}
		}
		before := copyOf(l)
		want := api.OK
		if !plainMay(l) {
			want = api.ErrPosting
			refused++
		}
		if e := Check(l); e != want {
			t.Fatalf("Check of %v: %d, not %d", l, e, want)
		}
		if !plainSame(l, before) {
			t.Fatalf("Check changes what is handed in: %v", l)
		}
		if b, e := Encode(l); e != want || (e != api.OK && len(b) > 0) {
			t.Fatalf("Encode of %v: %x, %d, not %d", l, b, e, want)
		}
	}
	if refused < 5000 || refused > 15000 {
		t.Errorf("%d rows of 20000 may not be", refused)
	}
}

func TestP8_1Docs(t *testing.T) {
	for _, l := range append(goodRows(), badRows()...) { // also of rows that may not be
		docs := Docs(l)
		if len(docs) != len(l) {
			t.Fatalf("Docs of %d posts: %d", len(l), len(docs))
		}
		for i, p := range l {
			if docs[i] != p.Doc {
				t.Fatalf("Docs of %.100v: %d at %d", l[:min(len(l), 5)], docs[i], i)
			}
		}
	}
	l := row(at(7, 1), at(3), at(3, 9), at(-5, 2), at(math.MaxInt, 0))
	docs := Docs(l)
	if !slices.Equal(docs, []int{7, 3, 3, -5, math.MaxInt}) {
		t.Error(docs)
	}
	docs[0] = 99
	if again := Docs(l); again[0] != 7 || l[0].Doc != 7 {
		t.Error("Docs shares memory: ", again, l)
	}
}

func TestP8_1Same(t *testing.T) {
	for _, x := range []struct {
		a, b []api.Post
		same bool
	}{
		{nil, nil, true}, {nil, []api.Post{}, true}, {row(at(1)), row(api.Post{Doc: 1, Pos: []int{}}), true},
		{row(at(1, 2)), row(at(1, 2)), true}, {row(at(-1, 5, 5), at(-1)), row(at(-1, 5, 5), at(-1)), true},
		{nil, row(at(0)), false}, {nil, row(at(0, 0)), false}, {row(at(1, 2)), row(at(2, 2)), false}, {row(at(1, 2)), row(at(1, 3)), false}, {row(at(1, 2)), row(at(1)), false},
		{row(at(1, 2)), row(at(1, 2, 3)), false}, {row(at(1, 2, 3)), row(at(1, 3, 2)), false}, {row(at(1, 2), at(3, 4)), row(at(1, 2)), false}, {row(at(1, 2), at(3, 4)), row(at(3, 4), at(1, 2)), false},
		{row(at(1, 2), at(3, 4)), row(at(1, 2), at(3, 5)), false}, {row(at(1, 2), at(3, 4)), row(at(1, 2), at(4, 4)), false}, {row(at(1, 2), at(3, 4)), row(at(1, 2, 4), at(3)), false},
	} {
		if Same(x.a, x.b) != x.same || Same(x.b, x.a) != x.same {
			t.Errorf("Same of %v and %v: %v, %v", x.a, x.b, Same(x.a, x.b), Same(x.b, x.a))
		}
	}
	r := rand.New(rand.NewSource(811))
	differ := 0
	for range 5000 {
		a := randomRow(r, 1+r.Intn(40), 50)
		b := turned(r, a)
		if Same(a, b) != plainSame(a, b) || !Same(a, copyOf(a)) || Same(a, a[1:]) || Same(a, append(a, at(1, 1))) {
			t.Fatalf("Same of %v and %v: %v", a, b, Same(a, b))
		}
		if !plainSame(a, b) {
			differ++
		}
	}
	if differ < 1000 {
		t.Errorf("only %d rows differ", differ)
	}
}

func TestP8_2EncodeOfKnown(t *testing.T) {
	one := "\x00\x01\x00" // the next Doc, at 0
	for _, x := range []struct {
		l []api.Post
		s string
	}{
		{nil, "\x00"}, {[]api.Post{}, "\x00"},
		{row(at(0, 3, 5), at(2, 0)), "\x02\x02\x07\x00\x02\x03\x01\x01\x01\x00"},
		{row(at(0, 0)), "\x01\x00\x03\x00\x01\x00"},
		{row(at(5, 7)), "\x01\x05\x03\x05\x01\x07"}, // the first one's Doc itself
		{row(at(5, 7), at(6, 8), at(7, 9)), "\x03\x07\x09\x05\x01\x07\x00\x01\x08\x00\x01\x09"},
		{row(at(5, 7, 8, 10)), "\x01\x05\x05\x05\x03\x07\x00\x01"},
		{row(at(65535, 1048575)), "\x01\xff\xff\x03\x07\xff\xff\x03\x01\xff\xff\x3f"},
		{row(at(0, 0, 1048575)), "\x01\x00\x06\x00\x02\x00\xfe\xff\x3f"},
		{row(at(0, 0), at(65535, 0)), "\x02\xff\xff\x03\x08\x00\x01\x00\xfe\xff\x03\x01\x00"},
		{row(at(127, 0), at(255, 0)), "\x02\xff\x01\x06\x7f\x01\x00\x7f\x01\x00"},
		{row(at(128, 0), at(257, 0)), "\x02\x81\x02\x08\x80\x01\x01\x00\x80\x01\x01\x00"},
		{row(at(0, from(0, 128)...)), "\x01\x00\x83\x01\x00\x80\x01" + strings.Repeat("\x00", 128)},
		{dense(0, 31), "\x1f\x1e\x5d" + strings.Repeat(one, 31)},
		{dense(0, 32), "\x20\x1f\x60" + strings.Repeat(one, 32)},
		{dense(0, 33), "\x21\x1f\x60\x20\x03" + strings.Repeat(one, 33)},
		{dense(0, 64), "\x40\x1f\x60\x3f\x60" + strings.Repeat(one, 64)},
		{dense(0, 65), "\x41\x1f\x60\x3f\x60\x40\x03" + strings.Repeat(one, 65)},
		{dense(7, 33), "\x21\x26\x60\x27\x03\x07\x01\x00" + strings.Repeat(one, 32)},
		{append(dense(0, 32), at(40, 1)), "\x21\x1f\x60\x28\x03" + strings.Repeat(one, 32) + "\x08\x01\x01"}, // a gap of Docs from block to block
	} {
		if got := encoded(t, x.l); got != x.s {
			t.Errorf("Encode of %v: %x, not %x", x.l, got, x.s)
		}
		checkDecode(t, x.s, x.l, true)
	}
}

func TestP8_2EncodeByWords(t *testing.T) {
	for _, l := range goodRows() {
		if got, want := encoded(t, l), plainBytes(l); got != want {
			t.Fatalf("Encode of %d posts, %.100v: %.60x (%d bytes), not %.60x (%d bytes)", len(l), l[:min(len(l), 5)], got, len(got), want, len(want))
		}
	}
}

func TestP8_2EncodeRefuses(t *testing.T) {
	for i, l := range badRows() {
		if b, e := Encode(l); len(b) > 0 || e != api.ErrPosting {
			t.Errorf("Encode of the bad row %d, %.100v: %.60x, %d", i, l[:min(len(l), 5)], b, e)
		}
	}
}

func TestP8_2DecodeRefuses(t *testing.T) {
	for _, s := range oddBytes() {
		if _, ok := plainRow(s); ok {
			t.Fatalf("%.60x are a row's bytes", s)
		}
		checkDecode(t, s, nil, false)
	}
	checkDecode(t, "\x00", nil, true)
	if l, e := Decode(nil); len(l) > 0 || e != api.ErrPosting {
		t.Error(l, e)
	}
	for _, l := range badRows() { // the bytes that such rows would have
		if !slices.ContainsFunc(l, func(p api.Post) bool { return len(p.Pos) == 0 }) {
			checkDecode(t, plainBytes(l), nil, false)
		}
	}
}

// numbersOf are where the numbers of a row's bytes stand, and behind them where these end.
func numbersOf(s string) []int {
	ends := []int{0}
	for i := range len(s) {
		if s[i] < 128 {
			ends = append(ends, i+1)
		}
	}
	return ends
}

// retold is a row's bytes with other ones for a number; if that stands in a block, whose number's place is told, the block's length is told anew, as it is then.
func retold(s string, i int, other string) string {
	at := numbersOf(s)
	s = s[:at[i]] + other + s[at[i+1]:]
	if n := len(other) - (at[i+1] - at[i]); n != 0 && i > 2 {
		old, size := binary.Uvarint([]byte(s[at[2]:]))
		s = s[:at[2]] + string(binary.AppendUvarint(nil, old+uint64(n))) + s[at[2]+size:]
	}
	return s
}

// Each number of rows of one block is told one less, one more, and in one byte too many, with the length that the block has then.
func TestP8_2NumbersTurned(t *testing.T) {
	for _, l := range [][]api.Post{row(at(0, 0)), row(at(0, 3, 5), at(2, 0)), row(at(5, 7), at(6, 8), at(300, 1, 2, 500)), row(at(65535, 1048575)), dense(3, 30), spread(20), row(at(1, from(40, 300)...), at(9, 1))} {
		s := plainBytes(l)
		at := numbersOf(s)
		for i := range len(at) - 1 {
			own := s[at[i]:at[i+1]]
			long := own[:len(own)-1] + string([]byte{own[len(own)-1] | 128, 0})
			longer := own[:len(own)-1] + string([]byte{own[len(own)-1] | 128, 128, 0})
			checkDecode(t, retold(s, i, long), nil, false)
			checkDecode(t, retold(s, i, longer), nil, false)
			n, _ := binary.Uvarint([]byte(own))
			for _, other := range []uint64{n - 1, n + 1, n + 128, n - 128, 1<<63 + n, n + 1<<32} {
				x := retold(s, i, string(binary.AppendUvarint(nil, other)))
				want, ok := plainRow(x)
				checkDecode(t, x, want, ok)
			}
		}
	}
}

// Heads that are not what the blocks have: with the second block's numbers, with those of both exchanged, with bytes of the one in the other.
func TestP8_2Heads(t *testing.T) {
	one := "\x00\x01\x00"
	bodies := strings.Repeat(one, 65)
	for _, heads := range []string{
		"\x41\x1f\x60\x3f\x60\x41\x03", "\x41\x1f\x60\x3f\x60\x3f\x03", "\x41\x1f\x60\x40\x60\x40\x03", "\x41\x20\x60\x3f\x60\x40\x03", "\x41\x1e\x60\x3f\x60\x40\x03", "\x41\x00\x60\x3f\x60\x40\x03",
		"\x41\x1f\x63\x3f\x5d\x40\x03", "\x41\x1f\x5d\x3f\x63\x40\x03", "\x41\x1f\x60\x3f\x63\x40\x00", "\x41\x1f\x60\x3f\x5d\x40\x06", "\x41\x1f\x61\x3f\x5f\x40\x03", "\x41\x1f\x60\x3f\x60\x40\x04", "\x41\x1f\x60\x3f\x60\x40\x02",
		"\x41\x3f\x60\x1f\x60\x40\x03", "\x41\x1f\x60\x3f\x60", "\x41\x1f\x60\x3f\x60\x40\x03\x41\x00", "\x40\x1f\x60\x3f\x60\x40\x03", "\x42\x1f\x60\x3f\x60\x40\x03", "\x42\x1f\x60\x3f\x60\x41\x06", "\x21\x1f\x60\x20\x03", "\x61\x1f\x60\x3f\x60\x40\x03",
		"\x41\x1f\xe0\x00\x3f\x60\x40\x03", "\x41\x9f\x00\x60\x3f\x60\x40\x03", "\x41\x1f\x60\x3f\x60\xc0\x00\x03", "\x41\x1f\x60\x3f\x60\x40\x83\x00", "\xc1\x00\x1f\x60\x3f\x60\x40\x03",
		"\x41\x1f\x60\x3f\x60\x40\x83\x80\x80\x80\x80\x80\x80\x80\x80\x01", "\x41\x1f\xe0\x80\x80\x80\x80\x80\x80\x80\x80\x01\x3f\x60\x40\x03", "\x41\x9f\x80\x80\x80\x80\x80\x80\x80\x80\x01\x60\x3f\x60\x40\x03",
	} {
		if _, ok := plainRow(heads + bodies); ok {
			t.Fatalf("%x are good heads", heads)
		}
		checkDecode(t, heads+bodies, nil, false)
	}
	checkDecode(t, "\x41\x1f\x60\x3f\x60\x40\x03"+bodies, dense(0, 65), true)
}

// All changes of one byte of some rows' bytes.
func TestP8_2BytesTurned(t *testing.T) {
	for _, l := range [][]api.Post{nil, row(at(0, 0)), row(at(0, 3, 5), at(2, 0)), row(at(5, 7), at(6, 8), at(300, 1, 2, 500)), row(at(65535, 1048575)), dense(0, 33), spread(34), row(at(0, from(0, 130)...))} {
		b := []byte(plainBytes(l))
		for i := range b {
			own := b[i]
			for c := range 256 {
				b[i] = byte(c)
				want, ok := plainRow(string(b))
				checkDecode(t, string(b), want, ok)
			}
			b[i] = own
		}
	}
}

// All bytes of a length, out of a few that rows' bytes have.
func TestP8_2AllBytes(t *testing.T) {
	rows := 0
	for _, x := range []struct {
		of   string
		most int
	}{{"\x00\x01\x02\x03\x04\x05\x06\x7f\x80\x81\xff", 5}, {"\x00\x01\x02\x03\x04\x80", 7}, {"\x00\x01\x02\x06", 9}} {
		l := []string{""}
		for range x.most {
			var next []string
			for _, s := range l {
				for i := range len(x.of) {
					next = append(next, s+x.of[i:i+1])
				}
			}
			l = next
			for _, s := range l {
				want, ok := plainRow(s)
				checkDecode(t, s, want, ok)
				if ok {
					rows++
				}
			}
		}
	}
	if rows < 50 {
		t.Errorf("only %d of all bytes are a row's", rows)
	}
}

func TestP8_2RandomBytes(t *testing.T) {
	r := rand.New(rand.NewSource(82))
	rows := 0
	for i := range 30000 {
		b := []byte(plainBytes(randomRow(r, r.Intn(1+i%100), 1<<(1+i%14))))
		for range 1 + r.Intn(2) {
			switch at := r.Intn(len(b)); r.Intn(5) {
			case 0:
				b[at] = byte(r.Intn(256))
			case 1:
				b[at] += byte(r.Intn(3))
			case 2:
				b = append(b[:at:at], b[at+1:]...)
			case 3:
				b = slices.Insert(b, at, byte(r.Intn(256)))
			case 4:
				b = append(b, byte(r.Intn(4)))
			}
			if len(b) == 0 {
				break
			}
		}
		want, ok := plainRow(string(b))
		checkDecode(t, string(b), want, ok)
		if ok {
			rows++
		}
	}
	if rows < 300 {
		t.Errorf("only %d of the bytes are a row's", rows)
	}
}

func TestP8_2NewMemory(t *testing.T) {
	l := spread(40)
	b, _ := Encode(l)
	s := string(b)
	got, e := Decode(b)
	if e != api.OK || !plainSame(got, l) {
		t.Fatal(got, e)
	}
	clear(b)
	if !plainSame(got, l) {
		t.Error("Decode's row hangs on its bytes")
	}
	for i := range got { // no list of an answer has another one's memory, not even behind its end
		got[i].Pos = append(got[i].Pos, -7)
		clear(got[i].Pos)
	}
	got = append(got, at(9))
	for i, p := range got[:40] {
		if !slices.Equal(p.Pos, []int{0, 0, 0}) {
			t.Errorf("the places at %d: %v", i, p.Pos)
		}
	}
	again, e := Decode([]byte(s))
	if e != api.OK || !plainSame(again, l) {
		t.Error("Decode keeps its answer")
	}
	for i := range l {
		l[i].Doc = 0
		clear(l[i].Pos)
	}
	if x, e := Encode(spread(40)); e != api.OK || string(x) != s {
		t.Error("Encode keeps its answer, or what it was given")
	}
}

func TestP8_3Find(t *testing.T) {
	s := plainBytes(row(at(3, 1, 2), at(4, 9), at(10, 0), at(300, 1048575)))
	for doc, want := range map[int][]int{2: nil, 3: {1, 2}, 4: {9}, 5: nil, 9: nil, 10: {0}, 11: nil, 299: nil, 300: {1048575}, 301: nil, 65535: nil, 65536: nil, 0: nil, -1: nil, -3: nil, math.MinInt: nil, math.MaxInt: nil, 300 + 1<<32: nil, 3 - 1<<62: nil} {
		checkFind(t, s, doc, want)
	}
	for _, doc := range []int{0, 1, -1, 65535, math.MinInt, math.MaxInt} {
		checkFind(t, "\x00", doc, nil) // in a row of no posts
	}
	s = plainBytes(row(at(0, 5), at(65535, 6)))
	for doc, want := range map[int][]int{-1: nil, 0: {5}, 1: nil, 65534: nil, 65535: {6}, 65536: nil} {
		checkFind(t, s, doc, want)
	}
}

// Docs at blocks' ends, at the next ones' beginnings, and between them.
func TestP8_3Blocks(t *testing.T) {
	for _, n := range counts {
		for _, l := range [][]api.Post{spread(n), dense(5, n)} {
			s := plainBytes(l)
			places := map[int][]int{}
			for _, p := range l {
				places[p.Doc] = p.Pos
			}
			for doc := -2; doc < 320; doc++ {
				checkFind(t, s, doc, places[doc])
			}
		}
	}
	s := plainBytes(spread(65)) // of the Docs 10, 13 and so on: 103 ends the first block, 106 begins the second one
	checkFind(t, s, 103, []int{31, 231})
	checkFind(t, s, 104, nil)
	checkFind(t, s, 105, nil)
	checkFind(t, s, 106, []int{32, 232})
	checkFind(t, s, 199, []int{63, 263})
	checkFind(t, s, 202, []int{64, 264})
	checkFind(t, s, 205, nil)
}

func TestP8_3Rows(t *testing.T) {
	r := rand.New(rand.NewSource(83))
	for _, l := range goodRows()[40:] {
		s := plainBytes(l)
		places := map[int][]int{}
		for _, p := range l {
			places[p.Doc] = p.Pos
		}
		for i := range min(len(l), 20) {
			doc := l[(i*17+r.Intn(3))%len(l)].Doc
			checkFind(t, s, doc, places[doc])
			checkFind(t, s, doc-1, places[doc-1])
			checkFind(t, s, doc+1, places[doc+1])
		}
		doc := r.Intn(65536)
		checkFind(t, s, doc, places[doc])
	}
}

func TestP8_3Refuses(t *testing.T) {
	whole := plainBytes(spread(40))
	bad := append(oddBytes(), whole[:len(whole)-1], whole+"\x00", plainBytes(row(at(10, 1), at(10, 1))), plainBytes(row(at(10, 1), at(9, 1))))
	for _, s := range bad {
		for _, doc := range []int{0, 1, 2, 10, 13, 65535, 65536, -1, math.MinInt, math.MaxInt} { // Decode's error, also of a Doc that can't be there, or that whole blocks tell of
			if pos, ok, e := Find([]byte(s), doc); len(pos) > 0 || ok || e != api.ErrPosting {
				t.Fatalf("Find of %d in %.60x: %v, %v, %d", doc, s, pos, ok, e)
			}
		}
	}
	if pos, ok, e := Find(nil, 0); len(pos) > 0 || ok || e != api.ErrPosting {
		t.Error(pos, ok, e)
	}
}

func TestP8_3NewMemory(t *testing.T) {
	b := []byte(plainBytes(spread(40)))
	pos, _, _ := Find(b, 13)
	clear(b)
	if !slices.Equal(pos, []int{1, 201}) {
		t.Error("what Find tells hangs on its bytes: ", pos)
	}
	clear(pos)
	if pos, _, _ := Find([]byte(plainBytes(spread(40))), 13); !slices.Equal(pos, []int{1, 201}) {
		t.Error("Find keeps its answer: ", pos)
	}
}

func TestP8_4Join(t *testing.T) {
	a, b := row(at(0, 3, 5), at(2, 0)), row(at(0, 7), at(1, 8, 9))
	for _, x := range []struct {
		a, b []api.Post
		by   int
		want []api.Post
	}{
		{a, b, 3, row(at(0, 3, 5), at(2, 0), at(3, 7), at(4, 8, 9))}, // they touch
		{a, b, 4, row(at(0, 3, 5), at(2, 0), at(4, 7), at(5, 8, 9))},
		{b, a, 2, row(at(0, 7), at(1, 8, 9), at(2, 3, 5), at(4, 0))},
		{a, b, 65534, row(at(0, 3, 5), at(2, 0), at(65534, 7), at(65535, 8, 9))},
		{a, row(at(3, 1)), 0, row(at(0, 3, 5), at(2, 0), at(3, 1))},
		{a, row(at(5, 1)), 0, row(at(0, 3, 5), at(2, 0), at(5, 1))},
		{nil, b, 0, b}, {nil, b, 5, row(at(5, 7), at(6, 8, 9))}, {nil, b, 65534, row(at(65534, 7), at(65535, 8, 9))},
		{a, nil, 0, a}, {a, nil, 1, a}, {a, []api.Post{}, 65535, a}, {a, nil, 65536, a},
		{nil, nil, 0, nil}, {nil, nil, 65536, nil}, {[]api.Post{}, nil, 7, nil},
		{row(at(65535, 0)), nil, 65536, row(at(65535, 0))}, {nil, row(at(65535, 0)), 0, row(at(65535, 0))}, {nil, row(at(0, 0)), 65535, row(at(65535, 0))}, {row(at(65534, 0)), row(at(0, 0)), 65535, row(at(65534, 0), at(65535, 0))},
		{dense(0, 65535), dense(0, 1), 65535, dense(0, 65536)}, {dense(0, 1), dense(0, 65535), 1, dense(0, 65536)}, {dense(0, 31), dense(0, 2), 31, dense(0, 33)},
	} {
		checkJoin(t, x.a, x.b, x.by, x.want, true)
	}
}

func TestP8_4Refuses(t *testing.T) {
	a, b := row(at(0, 3, 5), at(2, 0)), row(at(0, 7), at(1, 8, 9))
	for _, x := range []struct {
		a, b []api.Post
		by   int
	}{
		{a, b, 2}, {a, b, 1}, {a, b, 0}, {a, a, 0}, {a, a, 2}, {a, row(at(2, 1)), 0}, {a, row(at(1, 1)), 1}, // not behind a
		{a, b, 65535}, {a, b, 65536}, {nil, b, 65535}, {nil, b, 65536}, {nil, row(at(0, 0)), 65536}, {nil, row(at(65535, 0)), 1}, {row(at(0, 0)), row(at(65535, 0)), 1}, {dense(0, 65536), dense(0, 1), 65536}, // past the last Doc
		{nil, nil, -1}, {a, nil, -1}, {nil, row(at(5, 1)), -1}, {a, row(at(5, 1)), -1}, {a, b, -1}, {nil, nil, 65537}, {a, nil, 65537}, {nil, b, 65537}, {a, b, 65537}, // by such numbers nothing is joined
		{nil, nil, math.MinInt}, {a, b, math.MinInt}, {nil, nil, math.MaxInt}, {a, b, math.MaxInt}, {nil, row(at(65535, 0)), math.MaxInt - 65534}, {nil, row(at(5, 0)), math.MaxInt}, {nil, row(at(3, 0)), -3},
		{nil, row(at(-1, 0)), 1}, {a, row(at(-1, 0)), 4}, {a, row(at(-1, 0), at(0, 0)), 4}, {row(at(-1, 0)), nil, 1}, {row(at(-1, 0)), b, 1}, // one that may not be, though its Docs moved may
		{nil, row(at(math.MinInt, 0)), 0}, {nil, row(at(math.MaxInt, 0)), 1}, {nil, row(at(math.MaxInt, 0)), 65536}, {row(at(65536, 0)), nil, 0}, {row(at(65536, 0)), b, 65536}, {a, row(at(65536, 0)), 0},
	} {
		checkJoin(t, x.a, x.b, x.by, nil, false)
	}
	for _, bad := range badRows() {
		for _, by := range []int{-1, 0, 1, 3, 65535, 65536, 65537} {
			checkJoin(t, bad, nil, by, nil, false)
			checkJoin(t, nil, bad, by, nil, false)
			checkJoin(t, bad, b, by, nil, false)
			checkJoin(t, a, bad, by, nil, false)
		}
	}
}

func TestP8_4ByWords(t *testing.T) {
	r := rand.New(rand.NewSource(84))
	joined := 0
	for i := range 20000 {
		a, b := randomRow(r, r.Intn(1+i%50), 1<<(1+i%12)), randomRow(r, r.Intn(1+i%70), 1<<(1+i%12))
		if r.Intn(8) == 0 {
			a = turned(r, a)
		}
		if r.Intn(8) == 0 {
			b = turned(r, b)
		}
		by := r.Intn(70000) - 1000
		if r.Intn(2) == 0 && len(a) > 0 && len(b) > 0 {
			by = a[len(a)-1].Doc - b[0].Doc + r.Intn(4)
		}
		want, ok := plainJoin(a, b, by)
		checkJoin(t, a, b, by, want, ok)
		if ok {
			joined++
		}
	}
	if joined < 3000 || joined > 17000 {
		t.Errorf("%d of 20000 are joined", joined)
	}
}

func TestP8_4NewMemory(t *testing.T) {
	a, b := spread(5), spread(6)
	a = append(make([]api.Post, 0, 100), a...) // with room behind, which isn't the answer's
	l, e := Join(a, b, 30)
	want, _ := plainJoin(spread(5), spread(6), 30)
	if e != api.OK || !plainSame(l, want) {
		t.Fatal(l, e)
	}
	if rest := a[:11]; rest[5].Doc != 0 || rest[5].Pos != nil {
		t.Error("Join writes behind what is handed in: ", rest)
	}
	clear(a[0].Pos)
	clear(b[0].Pos)
	a[1].Doc, b[1].Doc = 77, 78
	if !plainSame(l, want) {
		t.Error("what Join tells hangs on what was handed in: ", l)
	}
	for i := range l {
		l[i].Pos = append(l[i].Pos, -7)
		clear(l[i].Pos)
	}
	for i, p := range l {
		if !slices.Equal(p.Pos, []int{0, 0, 0}) {
			t.Errorf("the places at %d: %v", i, p.Pos)
		}
	}
	if !plainSame(a[2:], spread(5)[2:]) || !plainSame(b[2:], spread(6)[2:]) {
		t.Error("what was handed in hangs on what Join tells: ", a, b)
	}
	one, _ := Join(spread(3), nil, 0)
	other, _ := Join(spread(3), nil, 0)
	clear(one[0].Pos)
	if !plainSame(other, spread(3)) {
		t.Error("Join keeps its answer: ", other)
	}
}

func TestP8_5ThereAndBack(t *testing.T) {
	for _, l := range goodRows() {
		s := encoded(t, l)
		checkDecode(t, s, l, true)
		got, e := Decode([]byte(s))
		if e != api.OK || !Same(got, l) || Check(got) != api.OK {
			t.Fatalf("%d posts, %.100v, there and back: %.100v, %d", len(l), l[:min(len(l), 5)], got[:min(len(got), 5)], e)
		}
		if again := encoded(t, got); again != s {
			t.Fatalf("%d posts, %.100v, there, back and there: %.60x, not %.60x", len(l), l[:min(len(l), 5)], again, s)
		}
	}
}

// Whatever bytes are decoded: encoded they are what they were.
func TestP8_5BackAndThere(t *testing.T) {
	r := rand.New(rand.NewSource(85))
	decoded := 0
	for i := range 60000 {
		b := []byte(plainBytes(randomRow(r, r.Intn(6), 1<<(1+i%16))))
		for range 1 + r.Intn(2) {
			b[r.Intn(len(b))] += byte(r.Intn(3))
		}
		l, e := Decode(b)
		if e != api.OK {
			continue
		}
		decoded++
		if got := encoded(t, l); got != string(b) {
			t.Fatalf("%x is decoded as %v, and that encoded as %x", b, l, got)
		}
	}
	if decoded < 3000 {
		t.Errorf("only %d bytes are decoded", decoded)
	}
}

func TestP8_5Beginnings(t *testing.T) {
	rows := goodRows()
	for i, l := range rows {
		if i%7 != 0 && i > 70 || len(l) > 200 {
			continue
		}
		s := encoded(t, l)
		if len(s) > 2000 {
			continue
		}
		for n := range len(s) {
			checkDecode(t, s[:n], nil, false)
		}
		for _, more := range []string{"\x00", "\x01", "\x80", "\xff", "\x00\x01\x00", "\x00\x01\x00\x00\x01\x00", s} {
			checkDecode(t, s+more, nil, false)
		}
	}
}

func TestP8_6Joined(t *testing.T) {
	r := rand.New(rand.NewSource(86))
	joined := 0
	for i := range 1500 {
		a, b := randomRow(r, r.Intn(1+i%90), 1<<(1+i%9)), randomRow(r, r.Intn(1+i%80), 1<<(1+i%9))
		by := r.Intn(500)
		if len(a) > 0 {
			by += a[len(a)-1].Doc
		}
		l, e := Join(a, b, by)
		if e != api.OK {
			continue
		}
		joined++
		checkJoined(t, a, b, by, encoded(t, l))
	}
	if joined < 1000 {
		t.Errorf("only %d rows are joined", joined)
	}
	for _, n := range []int{0, 1, 31, 32, 33, 64, 65} {
		for _, m := range []int{0, 1, 31, 32, 33, 64, 65} {
			l, e := Join(dense(0, n), spread(m), n)
			if e != api.OK {
				t.Fatal(n, m, e)
			}
			checkJoined(t, dense(0, n), spread(m), n, encoded(t, l))
		}
	}
}

// checkJoined holds what Find tells of a joined row's bytes against what it tells of those of the two: of their Docs, and of the ones beside.
func checkJoined(t *testing.T, a, b []api.Post, by int, s string) {
	t.Helper()
	ownA, ownB := encoded(t, a), encoded(t, b)
	for _, p := range a {
		want, ok, _ := Find([]byte(ownA), p.Doc)
		got, found, e := Find([]byte(s), p.Doc)
		if !ok || !found || e != api.OK || !slices.Equal(got, want) {
			t.Fatalf("%d of the first row: %v, %v, %d, not %v, %v", p.Doc, got, found, e, want, ok)
		}
	}
	for _, p := range b {
		want, ok, _ := Find([]byte(ownB), p.Doc)
		got, found, e := Find([]byte(s), p.Doc+by)
		if !ok || !found || e != api.OK || !slices.Equal(got, want) {
			t.Fatalf("%d of the second row, by %d: %v, %v, %d, not %v, %v", p.Doc, by, got, found, e, want, ok)
		}
	}
	if n, e := Count([]byte(s)); n != len(a)+len(b) || e != api.OK {
		t.Fatalf("of %d and %d posts joined there are %d, %d", len(a), len(b), n, e)
	}
	for _, p := range append(copyOf(a), copyOf(b)...) {
		_, inA, _ := Find([]byte(ownA), p.Doc+1)
		_, inB, _ := Find([]byte(ownB), p.Doc+1-by)
		if _, found, _ := Find([]byte(s), p.Doc+1); found != (inA || inB) {
			t.Fatalf("%d of a joined row: %v, of the two %v, %v", p.Doc+1, found, inA, inB)
		}
	}
}
