package event

import (
	"encoding/binary"
	"math"
	"math/rand"
	"slices"
	"strings"
	"testing"

	"loggia/api"
)

// checkPut holds Put of an event that may be, behind bytes, against the chapter's words.
func checkPut(t *testing.T, ahead string, e api.Event) {
	t.Helper()
	b, was := []byte(ahead), copyOf(e)
	got, x := Put(b, e)
	if string(got) != ahead+plainBytes(e) || x != api.OK {
		t.Fatalf("Put of %.80v behind %x: %.80x, %d", e, ahead, got, x)
	}
	if string(b) != ahead || !plainSame(e, was) {
		t.Fatalf("Put changes what is handed in: %.80v behind %x", e, ahead)
	}
}

// checkGet holds Get of bytes against the chapter's words.
func checkGet(t *testing.T, s string) {
	t.Helper()
	want, size, ok := plainGet(s)
	why, left := api.OK, s[size:]
	if !ok {
		why, left = api.ErrEvent, ""
	}
	b := []byte(s)
	e, rest, x := Get(b)
	if x != why || !plainSame(e, want) || string(rest) != left {
		t.Fatalf("Get of %.80x (%d bytes): %.80v, a rest of %d bytes, %d, not %.80v, %d, %d", s, len(s), e, len(rest), x, want, len(left), why)
	}
	if string(b) != s {
		t.Fatalf("Get changes what is handed in: %.80x", s)
	}
}

// checkDecode holds Decode of bytes against the chapter's words.
func checkDecode(t *testing.T, s string) {
	t.Helper()
	want, ok := plainDecode(s)
	why := api.OK
	if !ok {
		why = api.ErrEvent
	}
	b := []byte(s)
	got, x := Decode(b)
	if x != why || got.Seq != want.Seq || !sameAll(got.Events, want.Events) {
		t.Fatalf("Decode of %.80x (%d bytes): %d, %d events, %d, not %d, %d, %d", s, len(s), got.Seq, len(got.Events), x, want.Seq, len(want.Events), why)
	}
	if string(b) != s {
		t.Fatalf("Decode changes what is handed in: %.80x", s)
	}
}

func TestP10_3PutOfKnown(t *testing.T) {
	for _, c := range []struct {
		e api.Event
		b string
	}{
		{api.Event{}, "\x00\x00"}, {of(-1), "\x01\x00"}, {of(1), "\x02\x00"}, {of(150, "a", ""), "\xac\x02\x01\x01a\x00"},
		{of(-3, "msg", "Disk full, disk", "host", "a"), "\x05\x02\x03msg\x0fDisk full, disk\x04host\x01a"},
		{of(math.MaxInt), "\xfe\xff\xff\xff\xff\xff\xff\xff\xff\x01\x00"}, {of(math.MinInt), "\xff\xff\xff\xff\xff\xff\xff\xff\xff\x01\x00"},
		{of(0, "a", xs(127)), "\x00\x01\x01a\x7f" + xs(127)}, {of(0, "a", xs(128)), "\x00\x01\x01a\x80\x01" + xs(128)}, {of(0, "a", xs(4096)), "\x00\x01\x01a\x80\x20" + xs(4096)},
		{of(0, strings.Repeat("n", 32), "\xff"), "\x00\x01\x20" + strings.Repeat("n", 32) + "\x01\xff"}, {many(16, "a", "b"), "\x00\x10" + strings.Repeat("\x01a\x01b", 16)},
	} {
		if b, x := Put(nil, c.e); string(b) != c.b || x != api.OK {
			t.Errorf("Put of %.80v: %.80x, %d, not %.80x", c.e, b, x, c.b)
		}
		if b, x := Put([]byte("ab\xff"), c.e); string(b) != "ab\xff"+c.b || x != api.OK {
			t.Errorf("Put of %.80v behind bytes: %.80x, %d, not %.80x", c.e, b, x, c.b)
		}
	}
}

func TestP10_3PutByTheWords(t *testing.T) {
	for _, e := range goodEvents() {
		for _, ahead := range []string{"", "\x00", "ab\xff", xs(300)} {
			checkPut(t, ahead, e)
		}
	}
	r := rand.New(rand.NewSource(6))
	for range 3000 {
		checkPut(t, randomText(r, 4), randomEvent(r))
	}
}

func TestP10_3PutRefused(t *testing.T) {
	for i, c := range badEvents() {
		for _, ahead := range []string{"", "ab"} {
			if b, x := Put([]byte(ahead), c.e); len(b) != 0 || x != c.x {
				t.Errorf("Put of the bad event %d: %.40x, %d, not %d", i, b, x, c.x)
			}
		}
	}
}

func TestP10_3PutIsNewMemory(t *testing.T) {
	room := []byte("ab" + strings.Repeat("-", 60))
	b := room[:2]
	one, _ := Put(b, of(1, "a", "one"))
	two, _ := Put(b, of(2, "a", "two"))
	if string(one) != "ab\x02\x01\x01a\x03one" || string(two) != "ab\x04\x01\x01a\x03two" {
		t.Errorf("two answers from one b are %x and %x", one, two)
	}
	if string(room) != "ab"+strings.Repeat("-", 60) {
		t.Errorf("what stands behind b is %q", room)
	}
	for i := range one {
		one[i] = '!'
	}
	if string(room[:2]) != "ab" {
		t.Errorf("a turned answer turns b: %q", room)
	}
	room[0], room[1] = '+', '+'
	if string(two) != "ab\x04\x01\x01a\x03two" {
		t.Errorf("what was handed in turns an answer: %x", two)
	}
	left, _ := Put(nil, of(1))
	right, _ := Put([]byte{}, of(1))
	left[0] = 9
	if right[0] != 2 {
		t.Error("answers from no bytes share memory")
	}
}

func TestP10_3Get(t *testing.T) {
	for _, e := range goodEvents() {
		s := plainBytes(e)
		for _, behind := range []string{"", "\x00", "\xff", s, xs(300)} {
			got, rest, x := Get([]byte(s + behind))
			if x != api.OK || !plainSame(got, e) || string(rest) != behind {
				t.Fatalf("Get of %.80x: %.80v, %d bytes, %d", s+behind, got, len(rest), x)
			}
			checkGet(t, s+behind)
		}
	}
}

// beginnings are places within s: all if they are few, else those at both ends and some between.
func beginnings(s string) []int {
	var l []int
	for i := range len(s) {
		if i < 300 || i > len(s)-40 || i%61 == 0 {
			l = append(l, i)
		}
	}
	return l
}

func TestP10_3GetOfBeginnings(t *testing.T) {
	for _, e := range goodEvents() {
		s := plainBytes(e)
		for _, n := range beginnings(s) {
			if got, rest, x := Get([]byte(s[:n])); x != api.ErrEvent || len(rest) != 0 || !plainSame(got, api.Event{}) {
				t.Fatalf("Get of the first %d of the bytes %.80x: %.80v, %d bytes, %d", n, s, got, len(rest), x)
			}
		}
	}
	if _, _, x := Get(nil); x != api.ErrEvent {
		t.Errorf("Get of nothing: %d", x)
	}
}

// oddEvents are bytes of no event that may be.
func oddEvents() []string {
	l := []string{
		"", "\x80", "\xff", "\x00", "\x80\x00\x00", "\x81\x80\x00\x00", "\x00\x80\x00", "\x00\x81\x00\x01a\x00", "\x00\x01\x81\x00a\x00", "\x00\x01\x01a\x80\x00", "\x00\x01\x01a\x81\x00x", // numbers told too long
		"\x00\x01", "\x00\x01\x01", "\x00\x01\x01a", "\x00\x01\x01a\x01", "\x00\x02\x01a\x00", "\x00\x01\x02a\x00",
		"\x00\x01\x00\x00", "\x00\x01\x01A\x00", "\x00\x01\x02a-\x00", "\x00\x02\x01a\x00\x01A\x00", "\x00\x02\x01A\x00\x01a\x00", "\x00\x01\x02\xc3\xa9\x00", "\x00\x01\x01:\x01x", // names that may not be
		"\x00\x01\x21" + strings.Repeat("n", 33) + "\x00", "\x00\x01\x80\x01" + strings.Repeat("n", 128) + "\x00",
		"\x00\x01\x01a\x81\x20" + xs(4097), "\x00\x01\x01a\x82\x20" + xs(4098), "\x00\x02\x01a\x81\x20" + xs(4097) + "\x01b\x00", "\x00\x02\x01b\x00\x01a\x81\x20" + xs(4097), "\x00\x01\x01a\x80\x40" + xs(8192), // texts that are too long
		"\x00\x11" + strings.Repeat("\x01a\x00", 17), "\x00\x12" + strings.Repeat("\x01a\x00", 18), "\x00\x10" + strings.Repeat("\x01a\x00", 15), "\x00\xe8\x07" + strings.Repeat("\x01a\x00", 1000), // too many fields, and too few
		"\xff\xff\xff\xff\xff\xff\xff\xff\xff\x02\x00", "\xff\xff\xff\xff\xff\xff\xff\xff\xff\x81\x00\x00", "\xff\xff\xff\xff\xff\xff\xff\xff\xff", strings.Repeat("\xff", 300), strings.Repeat("\x80", 300),
	}
	for _, n := range []uint64{17, 32, 256, 272, 1 << 16, 1<<16 + 1, 1<<31 + 1, 1 << 32, 1<<32 + 1, 1<<63 - 1, 1 << 63, 1<<63 + 1, 1<<63 + 16, math.MaxUint64 - 1, math.MaxUint64} {
		s := string(binary.AppendUvarint(nil, n))
		l = append(l, "\x00"+s+strings.Repeat("\x01a\x00", 20), "\x00"+s, "\x00\x01"+s+"a\x00", "\x00\x01\x01a"+s, "\x00\x02\x01a\x00"+s+"b\x00", "\x00\x01"+s, "\x00\x01\x01a"+s+"x") // how many fields; a name's, a text's bytes
	}
	return l
}

func TestP10_3GetOfOdd(t *testing.T) {
	for _, s := range oddEvents() {
		if e, rest, x := Get([]byte(s)); x != api.ErrEvent || len(rest) != 0 || !plainSame(e, api.Event{}) {
			t.Errorf("Get of %.60x: %.60v, %d bytes, %d", s, e, len(rest), x)
		}
		for _, behind := range []string{"\x00", "\x01", "\xff\xff", xs(200)} { // some become whole so
			checkGet(t, s+behind)
		}
	}
}

// shortBytes calls f with all bytes of up to n of these kinds.
func shortBytes(kinds string, n int, f func(s string)) {
	row := []string{""}
	for range n {
		var next []string
		for _, s := range row {
			for i := range len(kinds) {
				next = append(next, s+kinds[i:i+1])
			}
		}
		for _, s := range next {
			f(s)
		}
		row = next
	}
}

func TestP10_3GetOfShort(t *testing.T) {
	shortBytes("\x00\x01\x02\x11aA\x80\xff", 5, func(s string) { checkGet(t, s) })
	shortBytes("\x00\x01a\x81", 8, func(s string) { checkGet(t, s) })
}

// someTurned calls f with the bytes in which one byte is another one, is missing, or is told twice.
func someTurned(r *rand.Rand, s string, f func(s string)) {
	for _, i := range beginnings(s) {
		for _, c := range []byte{0, 1, 15, 16, 17, 127, 128, 'a', 'A', 255, s[i] + 1, s[i] - 1, s[i] ^ 128, byte(r.Intn(256))} {
			f(s[:i] + string([]byte{c}) + s[i+1:])
		}
		f(s[:i] + s[i+1:])
		f(s[:i+1] + s[i:])
	}
}

func TestP10_3GetOfTurned(t *testing.T) {
	r := rand.New(rand.NewSource(7))
	for _, e := range []api.Event{of(-3, "msg", "Disk full, disk", "host", "a"), of(math.MinInt, "a", "", "a", ""), of(64, "a0", xs(127), "b", xs(128)), many(16, "a", ""), many(15, "abc", "x")} {
		someTurned(r, plainBytes(e)+"\x00", func(s string) { checkGet(t, s) })
	}
	for range 300 {
		s := plainBytes(randomEvent(r)) + randomText(r, 2)
		someTurned(r, s[:min(len(s), 120)], func(s string) { checkGet(t, s) })
	}
}

func TestP10_3GetIsNewMemory(t *testing.T) {
	s := plainBytes(of(7, "msg", "full", "host", "b"))
	room := []byte(s + "behind" + xs(40))
	b := room[:len(s)+6]
	e, rest, x := Get(b)
	if x != api.OK || string(rest) != "behind" {
		t.Fatal(e, rest, x)
	}
	for i := range room {
		room[i] = '!'
	}
	if !plainSame(e, of(7, "msg", "full", "host", "b")) || string(rest) != "behind" {
		t.Errorf("what was handed in turns an answer: %v, %q", e, rest)
	}
	rest = append(rest, "more"...)
	rest[0] = '?'
	if string(room) != strings.Repeat("!", len(room)) {
		t.Errorf("a turned rest turns what was handed in: %q", room)
	}
	one, _, _ := Get([]byte(s))
	other, _, _ := Get([]byte(s))
	one.Fields[0].Text = "turned"
	if !plainSame(other, of(7, "msg", "full", "host", "b")) {
		t.Errorf("two answers share memory: %v", other)
	}
}

func TestP10_4EncodeOfKnown(t *testing.T) {
	for _, c := range []struct {
		b api.Batch
		s string
	}{
		{batch(1, of(0)), "\x01\x01\x00\x00"}, {batch(7, of(-3, "a", "b"), of(1)), "\x07\x02\x05\x01\x01a\x01b\x02\x00"}, {batch(300, of(0)), "\xac\x02\x01\x00\x00"},
		{batch(1<<40, of(0)), "\x80\x80\x80\x80\x80\x20\x01\x00\x00"}, {batch(1, make([]api.Event, 64)...), "\x01\x40" + strings.Repeat("\x00\x00", 64)},
	} {
		if s, x := Encode(c.b); string(s) != c.s || x != api.OK {
			t.Errorf("Encode of %.80v: %x, %d, not %x", c.b, s, x, c.s)
		}
	}
}

func TestP10_4EncodeByTheWords(t *testing.T) {
	for _, b := range goodBatches() {
		was := copyOfAll(b)
		s, x := Encode(b)
		if string(s) != plainEncode(b) || x != api.OK {
			t.Fatalf("Encode of %d events from %d on: %.80x, %d", len(b.Events), b.Seq, s, x)
		}
		if b.Seq != was.Seq || !sameAll(b.Events, was.Events) {
			t.Fatalf("Encode changes what is handed in: %.200v", was)
		}
	}
}

func TestP10_4EncodeRefused(t *testing.T) {
	for i, c := range badBatches() {
		if s, x := Encode(c.b); len(s) != 0 || x != c.x {
			t.Errorf("Encode of the bad batch %d: %.40x, %d, not %d", i, s, x, c.x)
		}
	}
}

func TestP10_4EncodeIsNewMemory(t *testing.T) {
	b := batch(7, of(1, "a", "b"), of(2))
	one, _ := Encode(b)
	other, _ := Encode(b)
	for i := range one {
		one[i] = '!'
	}
	b.Events[0].Fields[0].Text, b.Events[1] = "turned", of(3)
	if string(other) != "\x07\x02\x02\x01\x01a\x01b\x04\x00" {
		t.Errorf("an answer became %x", other)
	}
}

func TestP10_4Decode(t *testing.T) {
	for _, b := range goodBatches() {
		s := plainEncode(b)
		got, x := Decode([]byte(s))
		if x != api.OK || got.Seq != b.Seq || !sameAll(got.Events, b.Events) {
			t.Fatalf("Decode of %.80x: %d, %d events, %d", s, got.Seq, len(got.Events), x)
		}
		checkDecode(t, s)
	}
}

// refused tells of Decode that it is to refuse bytes.
func refused(t *testing.T, s string) {
	t.Helper()
	if b, x := Decode([]byte(s)); x != api.ErrEvent || b.Seq != 0 || len(b.Events) != 0 {
		t.Errorf("Decode of %.60x (%d bytes): %d, %d events, %d", s, len(s), b.Seq, len(b.Events), x)
	}
	checkDecode(t, s)
}

func TestP10_4DecodeOfBeginnings(t *testing.T) {
	for i, b := range goodBatches() {
		s := plainEncode(b)
		for _, n := range beginnings(s) {
			if len(s) < 3000 || n%97 == i%97 || n < 10 || n > len(s)-10 {
				refused(t, s[:n])
			}
		}
		for _, behind := range []string{"\x00", "\x00\x00", "\xff", s} {
			refused(t, s+behind) // bytes stand behind a batch's
		}
	}
	refused(t, "")
}

func TestP10_4DecodeOfOdd(t *testing.T) {
	for _, s := range oddEvents() {
		refused(t, "\x01\x01"+s)
		refused(t, "\x01\x02\x00\x00"+s)
		refused(t, "\x01\x02"+s+"\x00\x00")
	}
	for i, c := range badBatches() {
		seq := string(binary.AppendUvarint(nil, uint64(c.b.Seq))) // one below 0 goes round
		refused(t, seq+plainEncode(batch(0, c.b.Events...))[1:])
		if t.Failed() {
			t.Fatalf("the bad batch %d", i)
		}
	}
	for _, s := range []string{
		"\x00\x01\x00\x00", "\x81\x00\x01\x00\x00", "\x01\x81\x00\x00\x00", "\x01\x80\x00", "\x80\x00\x01\x00\x00", "\x01\x01\x80\x00\x00", "\x01\x01\x00\x80\x00", // numbers told too long; Seq of 0
		"\x01\x00", "\x01\x00\x00\x00", "\x00\x00", "\x01", "\x80", "\xff", "\x01\x02\x00\x00", "\x01\x01\x00\x00\x00\x00", "\x01\x40" + strings.Repeat("\x00\x00", 63), "\x01\x41" + strings.Repeat("\x00\x00", 65), "\x01\x41" + strings.Repeat("\x00\x00", 64), "\x01\x40" + strings.Repeat("\x00\x00", 65), // another count
		strings.Repeat("\xff", 300), strings.Repeat("\x00", 300), strings.Repeat("\x01", 300), strings.Repeat("\x80", 300),
	} {
		refused(t, s)
	}
	for _, n := range []uint64{65, 128, 256 + 1, 1 << 16, 1 << 32, 1<<32 + 1, 1<<40 + 1, 1 << 41, 1<<63 - 1, 1 << 63, 1<<63 + 1, math.MaxUint64 - 1, math.MaxUint64} {
		s := string(binary.AppendUvarint(nil, n))
		refused(t, "\x01"+s+strings.Repeat("\x00\x00", 100))
		refused(t, "\x01"+s)
		refused(t, "\x01"+s+"\x00\x00")
		if n > 1<<40 {
			refused(t, s+"\x01\x00\x00")
			refused(t, s+"\x02\x00\x00\x00\x00")
		}
	}
}

func TestP10_4DecodeOfShort(t *testing.T) {
	shortBytes("\x00\x01\x02aA\x80\xff", 5, func(s string) { checkDecode(t, s) })
	shortBytes("\x00\x01a", 9, func(s string) { checkDecode(t, s) })
	shortBytes("\x00\x01\x02a", 6, func(s string) { checkDecode(t, "\x01\x01\x00"+s) })
}

func TestP10_4DecodeOfTurned(t *testing.T) {
	r := rand.New(rand.NewSource(8))
	for _, b := range []api.Batch{batch(7, of(-3, "msg", "Disk full, disk", "host", "a"), of(1)), batch(1<<40, of(math.MaxInt, "a", "b")), batch(1, make([]api.Event, 64)...), batch(128, of(0), many(3, "b", ""), of(0))} {
		someTurned(r, plainEncode(b), func(s string) { checkDecode(t, s) })
	}
	for range 100 {
		s := plainEncode(randomBatch(r, 4))
		for range 60 {
			i := r.Intn(len(s))
			checkDecode(t, s[:i]+string([]byte{byte(r.Intn(256))})+s[i+1:])
			checkDecode(t, s[:i]+s[i+1:])
			checkDecode(t, s[:i]+"\x00"+s[i:])
		}
	}
}

func TestP10_4DecodeIsNewMemory(t *testing.T) {
	want := []api.Event{of(1, "a", "b"), of(2, "c", "d", "e", "f"), of(3, "g", "h")}
	s := plainEncode(batch(7, want...))
	b := []byte(s)
	one, _ := Decode(b)
	other, _ := Decode(b)
	for i := range b {
		b[i] = '!'
	}
	if one.Seq != 7 || !sameAll(one.Events, want) {
		t.Error("what was handed in turns an answer: ", one)
	}
	for i := range one.Events { // no list reaches into another one
		one.Events[i].Fields = append(one.Events[i].Fields, api.Field{Name: "more"})
		one.Events[i].Fields[0].Text = "turned"
	}
	if !sameAll(one.Events, []api.Event{of(1, "a", "turned", "more", ""), of(2, "c", "turned", "e", "f", "more", ""), of(3, "g", "turned", "more", "")}) {
		t.Error("lists of one answer share memory: ", one)
	}
	if other.Seq != 7 || !sameAll(other.Events, want) {
		t.Error("two answers share memory: ", other)
	}
}

func TestP10_6ThereAndBack(t *testing.T) {
	r := rand.New(rand.NewSource(9))
	for range 3000 {
		var l []api.Event
		var b []byte
		for range r.Intn(6) {
			e := randomEvent(r)
			l = append(l, e)
			b, _ = Put(b, e)
		}
		rest := append(b, 0x80) // no event begins so
		for _, want := range l {
			var e api.Event
			var x api.Errno
			if e, rest, x = Get(rest); x != api.OK || !Same(e, want) {
				t.Fatalf("%.200q was put, %.200q is got, %d", want.Fields, e.Fields, x)
			}
		}
		if string(rest) != "\x80" {
			t.Fatalf("behind all stands %x", rest)
		}
	}
	for _, e := range goodEvents() {
		b, _ := Put(nil, e)
		if got, rest, x := Get(b); x != api.OK || len(rest) != 0 || !Same(got, e) {
			t.Errorf("%.80v was put, %.80v is got, %d", e, got, x)
		}
	}
	for _, b := range goodBatches() {
		s, _ := Encode(b)
		got, x := Decode(s)
		if x != api.OK || got.Seq != b.Seq || !slices.EqualFunc(got.Events, b.Events, Same) {
			t.Fatalf("%.80v was encoded, %.80v is decoded, %d", b, got, x)
		}
		if again, x := Encode(got); x != api.OK || string(again) != string(s) {
			t.Fatalf("%.80x was decoded, %.80x is encoded", s, again)
		}
	}
}
