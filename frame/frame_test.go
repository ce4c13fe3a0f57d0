package frame

import (
	"encoding/binary"
	"hash/crc32"
	"math"
	"math/rand"
	"slices"
	"strings"
	"testing"

	"loggia/api"
)

// headOf are the bytes of how many bytes a payload has, by the words of chapter 2, by division.
func headOf(n int) string {
	var l []byte
	for {
		l = append(l, byte(n%128))
		if n /= 128; n == 0 {
			break
		}
	}
	for i := range len(l) - 1 {
		l[i] += 128
	}
	return string(l)
}

// sumOf is the sum of a frame, the highest byte first; the library makes it.
func sumOf(head, payload string) string {
	return string(binary.BigEndian.AppendUint32(nil, crc32.ChecksumIEEE([]byte(head+payload))))
}

// frameOf is a payload's frame by the chapter's words.
func frameOf(payload string) string {
	head := headOf(len(payload))
	return head + sumOf(head, payload) + payload
}

// framesOf are payloads' frames by the chapter's words, one behind the other.
func framesOf(payloads ...string) string {
	s := ""
	for _, p := range payloads {
		s += frameOf(p)
	}
	return s
}

// numberIn is the number that stands first, and of how many bytes it is, by the words of chapter 2; ErrTorn, ErrFrame: why there is none.
func numberIn(s string) (n uint64, size int, e api.Errno) {
	for i, c := range []byte(s) {
		if i == 9 && c > 1 || i > 0 && c == 0 {
			return 0, 0, api.ErrFrame
		}
		n += uint64(c%128) << (7 * i)
		if c < 128 {
			return n, i + 1, api.OK
		}
	}
	return 0, 0, api.ErrTorn
}

// firstOf is what Get is to answer, by the chapter's words: the payload, how many bytes its frame has, the error.
func firstOf(s string) (payload string, size int, e api.Errno) {
	n, at, e := numberIn(s)
	if e != api.OK {
		return "", 0, e
	}
	if n > 1<<24 {
		return "", 0, api.ErrFrame
	}
	end := at + 4 + int(n)
	if end > len(s) {
		return "", 0, api.ErrTorn
	}
	if payload = s[at+4 : end]; s[at:at+4] != sumOf(s[:at], payload) {
		return "", 0, api.ErrFrame
	}
	return payload, end, api.OK
}

// someText are n bytes that a seed makes.
func someText(r *rand.Rand, n int) string {
	b := make([]byte, n)
	r.Read(b)
	return string(b)
}

// somePayloads are payloads of no byte, of few ones, of lengths at the borders of a number's sizes, and such as look like frames.
func somePayloads() []string {
	r := rand.New(rand.NewSource(4))
	l := []string{"", "\x00", "\xff", "a", "123456789", strings.Repeat("\x00", 300), strings.Repeat("\xff", 300), frameOf(""), frameOf("frame"), frameOf("a")[:5], "\x80", "\x80\x00"}
	for _, n := range []int{2, 3, 4, 5, 63, 64, 126, 127, 128, 129, 255, 256, 1000, 16383, 16384, 16385} {
		l = append(l, someText(r, n))
	}
	return l
}

// rowsOf are texts as rows of bytes.
func rowsOf(l ...string) [][]byte {
	rows := [][]byte{}
	for _, s := range l {
		rows = append(rows, []byte(s))
	}
	return rows
}

// textsOf are rows of bytes as texts.
func textsOf(rows [][]byte) []string {
	l := []string{}
	for _, b := range rows {
		l = append(l, string(b))
	}
	return l
}

// isPartOf tells whether a rest stands in b's own memory, as the bytes from a place on.
func isPartOf(rest, b []byte, at int) bool {
	return len(rest) == len(b)-at && (len(rest) == 0 || &rest[0] == &b[at])
}

// checkGet holds Get of bytes against the chapter's words.
func checkGet(t *testing.T, s string) {
	t.Helper()
	b := []byte(s)
	want, size, why := firstOf(s)
	payload, rest, e := Get(b)
	if string(payload) != want || e != why {
		t.Fatalf("Get of %.40x: %.40x, %d, not %.40x, %d", s, payload, e, want, why)
	}
	if why == api.OK && !isPartOf(rest, b, size) || why != api.OK && len(rest) != 0 {
		t.Fatalf("Get of %.40x: the rest is %.40x", s, rest)
	}
	if string(b) != s {
		t.Fatalf("Get changes what is handed in: %.40x, not %.40x", b, s)
	}
}

// checkSplit holds Split of bytes against what is to be told.
func checkSplit(t *testing.T, s string, want []string, n int, why api.Errno) {
	t.Helper()
	l, got, e := Split([]byte(s))
	if !slices.Equal(textsOf(l), want) || got != n || e != why {
		t.Fatalf("Split of %.40x: %d payloads, %d bytes, %d, not %d, %d, %d", s, len(l), got, e, len(want), n, why)
	}
}

func TestP4_1PutOfKnown(t *testing.T) {
	for _, c := range []struct{ payload, frame string }{
		{"", "\x00\xd2\x02\xef\x8d"},
		{"123456789", "\x09" + sumOf("\x09", "123456789") + "123456789"},
		{strings.Repeat("a", 300), "\xac\x02" + sumOf("\xac\x02", strings.Repeat("a", 300)) + strings.Repeat("a", 300)},
	} {
		if b, e := Put(nil, []byte(c.payload)); string(b) != c.frame || e != api.OK {
			t.Errorf("Put of %.20q: %.40x, %d, not %.40x", c.payload, b, e, c.frame)
		}
	}
	if b, e := Put(nil, nil); string(b) != "\x00\xd2\x02\xef\x8d" || e != api.OK {
		t.Errorf("Put of nothing: %x, %d", b, e)
	}
}

func TestP4_1PutByTheWords(t *testing.T) {
	for _, p := range somePayloads() {
		for _, b := range [][]byte{nil, {}, []byte("\x00"), []byte("ab\xff"), []byte(frameOf("x"))} {
			was := string(b)
			got, e := Put(b, []byte(p))
			if string(got) != was+frameOf(p) || e != api.OK {
				t.Errorf("Put of %d bytes behind %x: %.40x, %d", len(p), b, got, e)
			}
			if string(b) != was {
				t.Errorf("what was handed in is %x, not %x", b, was)
			}
		}
	}
}

func TestP4_1PutOfTheMost(t *testing.T) {
	p := strings.Repeat("loggia\x00\xff", api.MaxFrame/8)
	for _, n := range []int{1<<21 - 1, 1 << 21, api.MaxFrame - 1, api.MaxFrame} {
		b, e := Put([]byte("ab"), []byte(p[:n]))
		if string(b) != "ab"+frameOf(p[:n]) || e != api.OK {
			t.Errorf("Put of %d bytes: %d bytes, %d", n, len(b), e)
		}
	}
}

func TestP4_1PutOfMore(t *testing.T) {
	for _, n := range []int{api.MaxFrame + 1, api.MaxFrame + 2, 2 * api.MaxFrame} {
		for _, b := range []string{"", "ab"} {
			if got, e := Put([]byte(b), make([]byte, n)); len(got) != 0 || e != api.ErrLong {
				t.Errorf("Put of %d bytes: %d bytes, %d", n, len(got), e)
			}
		}
	}
}

func TestP4_1PutIsNewMemory(t *testing.T) {
	room := []byte("ab" + strings.Repeat("-", 30))
	b, p := room[:2], []byte("payload")
	x, _ := Put(b, p)
	y, _ := Put(b, []byte("another"))
	if string(x) != "ab"+frameOf("payload") || string(y) != "ab"+frameOf("another") {
		t.Fatalf("two answers of one b: %q, %q", x, y)
	}
	if string(room) != "ab"+strings.Repeat("-", 30) {
		t.Errorf("behind what was handed in stands %q", room)
	}
	copy(room, "xy")
	copy(p, "changed")
	if string(x) != "ab"+frameOf("payload") {
		t.Errorf("an answer is what was handed in: %q", x)
	}
	copy(x, "zz")
	if string(room[:2]) != "xy" || string(p) != "changed" || string(y) != "ab"+frameOf("another") {
		t.Errorf("an answer's change is seen: %q, %q, %q", room, p, y)
	}
}

// One's own bytes may be the payload.
func TestP4_1PutOfItsOwnBytes(t *testing.T) {
	b := []byte("abcdefgh------------------")
	if got, e := Put(b[:4], b[2:8]); string(got) != "abcd"+frameOf("cdefgh") || e != api.OK {
		t.Errorf("%q, %d", got, e)
	}
	if string(b) != "abcdefgh------------------" {
		t.Errorf("what was handed in is %q", b)
	}
}

func TestP4_1Size(t *testing.T) {
	for _, c := range []struct{ n, size int }{
		{math.MinInt, 0}, {math.MinInt32, 0}, {-1 << 24, 0}, {-5, 0}, {-1, 0},
		{0, 5}, {1, 6}, {9, 14}, {127, 132}, {128, 134}, {129, 135}, {16383, 16389}, {16384, 16391}, {1<<21 - 1, 1<<21 + 6}, {1 << 21, 1<<21 + 8},
		{api.MaxFrame - 1, api.MaxFrame + 7}, {api.MaxFrame, api.MaxFrame + 8},
		{api.MaxFrame + 1, 0}, {2 * api.MaxFrame, 0}, {1 << 32, 0}, {1<<32 + 1, 0}, {math.MaxInt, 0},
	} {
		if got := Size(c.n); got != c.size {
			t.Errorf("Size of %d: %d, not %d", c.n, got, c.size)
		}
	}
	for _, p := range somePayloads() {
		if b, _ := Put(nil, []byte(p)); Size(len(p)) != len(b) {
			t.Errorf("Size of %d: %d, its frame has %d", len(p), Size(len(p)), len(b))
		}
	}
}

func TestP4_2Get(t *testing.T) {
	for _, p := range somePayloads() {
		for _, more := range []string{"", "x", "\x00", "\x80\x00", frameOf("behind")} {
			b := []byte(frameOf(p) + more)
			got, rest, e := Get(b)
			if string(got) != p || string(rest) != more || e != api.OK {
				t.Errorf("Get of %.40x: %.40x, %x, %d", b, got, rest, e)
			}
			if !isPartOf(rest, b, len(b)-len(more)) {
				t.Errorf("the rest %x is no part of what was handed in", rest)
			}
		}
	}
}

func TestP4_2GetOfTheMost(t *testing.T) {
	p := strings.Repeat("log\xffia", api.MaxFrame)
	for _, n := range []int{1<<21 - 1, 1 << 21, api.MaxFrame} {
		s := frameOf(p[:n])
		if got, rest, e := Get([]byte(s + "more")); string(got) != p[:n] || string(rest) != "more" || e != api.OK {
			t.Errorf("Get of %d bytes: %d bytes, %q, %d", n, len(got), rest, e)
		}
		if got, rest, e := Get([]byte(s[:len(s)-1])); len(got) != 0 || len(rest) != 0 || e != api.ErrTorn {
			t.Errorf("Get of %d bytes less one: %d bytes, %q, %d", n, len(got), rest, e)
		}
	}
	s := frameOf(p[:api.MaxFrame+1]) // whole and right, but of one byte more than may be
	if got, rest, e := Get([]byte(s)); len(got) != 0 || len(rest) != 0 || e != api.ErrFrame {
		t.Errorf("Get of one byte more: %d bytes, %d, %d", len(got), len(rest), e)
	}
}

func TestP4_2PayloadIsNewMemory(t *testing.T) {
	b := []byte(frameOf("payload") + "rest")
	p, rest, _ := Get(b)
	q, _, _ := Get(b)
	for i := range len(b) - 4 {
		b[i] = '-'
	}
	if string(p) != "payload" || string(q) != "payload" {
		t.Errorf("a payload is what was handed in: %q, %q", p, q)
	}
	copy(p, "changed")
	if string(q) != "payload" || strings.Contains(string(b), "c") {
		t.Errorf("a payload's change is seen: %q, %q", q, b)
	}
	copy(rest, "REST")
	if string(b[len(b)-4:]) != "REST" {
		t.Errorf("a rest is no part of what was handed in: %q", b)
	}
}

func TestP4_2Torn(t *testing.T) {
	ff := strings.Repeat("\xff", 9)
	most := headOf(api.MaxFrame)
	for _, s := range []string{
		"", "\x80", "\xff", "\x81\x80", strings.Repeat("\x80", 9), ff, // no last byte yet, though nine are far above MaxFrame
		"\x00", "\x00\xd2\x02\xef", "\x00\x00", "\x00xxx", "\x01xxxx", "\x05\x00\x00\x00\x00abcd", // also if the sum can't be right
		"\x7f", "\xac\x02", "\xac\x02abcd", most, most + "abcd", most + "abcd" + ff,
	} {
		if p, rest, e := Get([]byte(s)); len(p) != 0 || len(rest) != 0 || e != api.ErrTorn {
			t.Errorf("Get of %x: %x, %x, %d", s, p, rest, e)
		}
		checkGet(t, s)
	}
	if p, rest, e := Get(nil); len(p) != 0 || len(rest) != 0 || e != api.ErrTorn {
		t.Error("Get of nothing: ", p, rest, e)
	}
}

func TestP4_2NoFrame(t *testing.T) {
	ff, zero := strings.Repeat("\xff", 9), strings.Repeat("\x80", 9)
	for _, s := range []string{
		"\x80\x00", "\x80\x00\xd2\x02\xef\x8d", "\x81\x00" + sumOf("\x81\x00", "a") + "a", "\x81\x00" + sumOf("\x01", "a") + "a", "\x80\x80\x00", // longer than it need be
		ff + "\x02", ff + "\x7f", ff + "\x80", ff + "\xff", zero + "\x00", zero + "\x80",
		headOf(api.MaxFrame + 1), headOf(api.MaxFrame+1) + "abcd", headOf(api.MaxFrame+1) + "abcdefgh", headOf(1 << 28), headOf(1 << 32), headOf(1<<32 + 1), headOf(math.MaxInt), ff + "\x01", ff + "\x01abcdefgh", zero + "\x01", zero + "\x01abcd",
		"\xff\xff\xff\xff\xff\xff\xff\xff\x7fabcdefgh", "\xfc\xff\xff\xff\xff\xff\xff\xff\xff\x01abcdefgh",
		"\x00\x00\x00\x00\x00", "\x00\x8d\xef\x02\xd2", "\x00\xd2\x02\xef\x8c", "\x00\x52\x02\xef\x8d", "\x00xxxxyyyy",
		"\x01" + sumOf("", "a") + "a", "\x01" + sumOf("a", "\x01") + "a", "\x01" + sumOf("\x01", "b") + "a", "\x02" + sumOf("\x01", "a") + "ab", "\x01" + sumOf("\x01", "a") + "b",
	} {
		if p, rest, e := Get([]byte(s)); len(p) != 0 || len(rest) != 0 || e != api.ErrFrame {
			t.Errorf("Get of %x: %x, %x, %d", s, p, rest, e)
		}
		checkGet(t, s)
	}
}

func TestP4_2GetByTheWords(t *testing.T) {
	for x := range 1 << 16 {
		checkGet(t, string([]byte{byte(x), byte(x >> 8)}))
	}
	for a := range 256 {
		c := string([]byte{byte(a)})
		checkGet(t, c)
		for _, head := range []string{"\x80\x80", "\xff\xff\xff", "\x80\x80\x80", strings.Repeat("\x80", 8), strings.Repeat("\xff", 9)} {
			checkGet(t, head+c)
			checkGet(t, head+c+"\x01abcdefgh")
		}
		checkGet(t, c+sumOf(c, "abc")+"abc")
		checkGet(t, "\x03"+c+sumOf("\x03", "abc")[1:]+"abc")
	}
	r := rand.New(rand.NewSource(42))
	for range 20000 {
		checkGet(t, someText(r, r.Intn(14)))
		s := frameOf(someText(r, r.Intn(8))) + someText(r, r.Intn(3))
		at := r.Intn(len(s))
		checkGet(t, s[:at]+someText(r, r.Intn(2))+s[at:])
		checkGet(t, s[:at]+s[at+1:])
	}
}

func TestP4_3Split(t *testing.T) {
	checkSplit(t, "", nil, 0, api.OK)
	if l, n, e := Split(nil); len(l) != 0 || n != 0 || e != api.OK {
		t.Error("Split of nothing: ", l, n, e)
	}
	all := somePayloads()
	for _, l := range [][]string{{""}, {"", ""}, {"a", "", "bc"}, {"", "a"}, {"a", ""}, slices.Repeat([]string{""}, 1000), slices.Repeat([]string{"same"}, 3), all} {
		s := framesOf(l...)
		checkSplit(t, s, l, len(s), api.OK)
	}
	for _, p := range all {
		checkSplit(t, frameOf(p), []string{p}, len(frameOf(p)), api.OK)
	}
}

func TestP4_3SplitAsFarAsItGoes(t *testing.T) {
	lists := [][]string{{}, {""}, {"a", "", "bc"}, somePayloads()}
	wrong := framesOf("a", "b")
	for _, l := range lists {
		s := framesOf(l...)
		for _, c := range []struct {
			more string
			e    api.Errno
		}{
			{"\x80", api.ErrTorn}, {"\x00", api.ErrTorn}, {"\x03abcd", api.ErrTorn}, {frameOf("torn")[:7], api.ErrTorn}, {strings.Repeat("\xff", 9), api.ErrTorn},
			{"\x80\x00", api.ErrFrame}, {"\x00abcd", api.ErrFrame}, {headOf(api.MaxFrame + 1), api.ErrFrame},
			{"\x80\x00" + frameOf("whole"), api.ErrFrame}, // nothing behind what is no frame is told
			{"x" + wrong[1:], api.ErrTorn}, {wrong[:5] + "x" + wrong[6:], api.ErrFrame},
		} {
			checkSplit(t, s+c.more, l, len(s), c.e)
		}
	}
}

func TestP4_3SplitIsNewMemory(t *testing.T) {
	s := framesOf("one", "", "two", "three")
	b := []byte(s)
	l, _, _ := Split(b)
	if string(b) != s {
		t.Errorf("what was handed in is %q", b)
	}
	for i := range b {
		b[i] = '-'
	}
	if !slices.Equal(textsOf(l), []string{"one", "", "two", "three"}) {
		t.Errorf("payloads are what was handed in: %q", l)
	}
	l[0] = append(l[0], "-------------------------"...)
	l[2] = append(l[2][:1], "x-------------------------"...)
	if string(l[1]) != "" || string(l[3]) != "three" || l[2][0] != 't' {
		t.Errorf("payloads share memory: %q", l)
	}
}

func TestP4_3Join(t *testing.T) {
	for i, l := range [][][]byte{nil, {}} {
		if b, e := Join(l...); len(b) != 0 || e != api.OK {
			t.Error(i, b, e)
		}
	}
	if b, e := Join(); len(b) != 0 || e != api.OK {
		t.Error(b, e)
	}
	if b, e := Join(nil, []byte{}, nil); string(b) != framesOf("", "", "") || e != api.OK {
		t.Error(b, e)
	}
	for _, l := range [][]string{{""}, {"a"}, {"a", "", "bc"}, {"bc", "", "a"}, somePayloads()} {
		rows := rowsOf(l...)
		if b, e := Join(rows...); string(b) != framesOf(l...) || e != api.OK {
			t.Errorf("Join of %.40q: %.40x, %d", l, b, e)
		}
		if !slices.Equal(textsOf(rows), l) {
			t.Errorf("what was handed in is %.40q, not %.40q", rows, l)
		}
	}
}

func TestP4_3JoinOfMore(t *testing.T) {
	most, more, few := make([]byte, api.MaxFrame), make([]byte, api.MaxFrame+1), []byte("few")
	for i, rows := range [][][]byte{{more}, {few, more}, {more, few}, {few, nil, more, few}, {most, more}, {more, more}} {
		if b, e := Join(rows...); len(b) != 0 || e != api.ErrLong {
			t.Errorf("%d: %d bytes, %d", i, len(b), e)
		}
	}
	b, e := Join(few, most, few) // only each payload by itself has a bound
	if len(b) != Size(3)+Size(api.MaxFrame)+Size(3) || e != api.OK {
		t.Errorf("Join of the most: %d bytes, %d", len(b), e)
	}
	if b, e = Join(most, few, most); len(b) != 2*Size(api.MaxFrame)+Size(3) || e != api.OK {
		t.Errorf("Join of more together: %d bytes, %d", len(b), e)
	}
}

func TestP4_3JoinIsNewMemory(t *testing.T) {
	p := []byte("payload")
	x, _ := Join(p)
	y, _ := Join(p, p)
	copy(p, "changed")
	if string(x) != frameOf("payload") || string(y) != framesOf("payload", "payload") {
		t.Errorf("frames are what was handed in: %q, %q", x, y)
	}
	clear(x)
	if string(y) != framesOf("payload", "payload") || string(p) != "changed" {
		t.Errorf("an answer's change is seen: %q, %q", y, p)
	}
}

// someLists are lists of payloads that a seed makes, some without bytes, some alike.
func someLists(n int) [][]string {
	r := rand.New(rand.NewSource(44))
	lists := [][]string{nil, {""}, {"", ""}, {"a", "", "bc"}, somePayloads()}
	for range n {
		var l []string
		for range r.Intn(7) {
			l = append(l, someText(r, r.Intn(2)*r.Intn(200)))
		}
		lists = append(lists, l)
	}
	return lists
}

func TestP4_4ThereAndBack(t *testing.T) {
	for _, l := range someLists(500) {
		b, e := Join(rowsOf(l...)...)
		if e != api.OK {
			t.Fatal(e)
		}
		checkSplit(t, string(b), l, len(b), api.OK)
		rest := b
		for _, p := range l { // one by one, likewise
			var got []byte
			if got, rest, e = Get(rest); string(got) != p || e != api.OK {
				t.Fatalf("%.40x, %d, not %.40x", got, e, p)
			}
		}
		if len(rest) != 0 {
			t.Fatalf("%x is left", rest)
		}
		var one []byte
		for _, p := range l {
			one, _ = Put(one, []byte(p))
		}
		if string(one) != string(b) {
			t.Fatal("what is put one by one is not what is joined")
		}
	}
}

func TestP4_4OfTheMost(t *testing.T) {
	p := []byte(strings.Repeat("most\x00\xff\x80.", api.MaxFrame/8))
	b, e := Join(p, nil, p[:api.MaxFrame-1])
	if e != api.OK {
		t.Fatal(e)
	}
	l, n, e := Split(b)
	if len(l) != 3 || string(l[0]) != string(p) || len(l[1]) != 0 || string(l[2]) != string(p[:api.MaxFrame-1]) || n != len(b) || e != api.OK {
		t.Error(len(l), n, e)
	}
}

// Of any bytes, those that are told, joined, are the ones that stood there.
func TestP4_4BackAndThere(t *testing.T) {
	r := rand.New(rand.NewSource(45))
	some := []string{"", "\x80", "\x00", "\x80\x00", "junk", frameOf("x")[:3], headOf(1 << 30)}
	for _, l := range someLists(500) {
		s := framesOf(l...) + some[r.Intn(len(some))] + someText(r, r.Intn(4))
		if len(s) > 0 && r.Intn(2) == 0 {
			at := r.Intn(len(s))
			s = s[:at] + someText(r, 1) + s[at+1:]
		}
		got, n, e := Split([]byte(s))
		if n > len(s) || (n == len(s)) != (e == api.OK) {
			t.Fatalf("%d of %d bytes, %d", n, len(s), e)
		}
		if b, e := Join(got...); string(b) != s[:n] || e != api.OK {
			t.Fatalf("%.40x, %d, not %.40x", b, e, s[:n])
		}
		checkSplit(t, s[:n], textsOf(got), n, api.OK)
	}
}

func TestP4_5CutOffAnywhere(t *testing.T) {
	for _, l := range [][]string{{""}, {"a"}, {"", "", ""}, {"a", "", "bc", "123456789"}, {strings.Repeat("x", 127), strings.Repeat("y", 128), "", strings.Repeat("z", 300)}, {frameOf("in"), "\x00\x80", frameOf("")}} {
		s := framesOf(l...)
		whole, n := 0, 0 // frames that are ahead of the cut, whole, and their bytes
		for at := range len(s) + 1 {
			if whole < len(l) && at == n+len(frameOf(l[whole])) {
				n, whole = at, whole+1
			}
			e := api.ErrTorn
			if at == n {
				e = api.OK
			}
			checkSplit(t, s[:at], l[:whole], n, e)
			if _, _, got := Get([]byte(s[n:at])); got != api.ErrTorn {
				t.Fatalf("Get of %x: %d", s[n:at], got)
			}
		}
	}
}

func TestP4_5CutOffLongOnes(t *testing.T) {
	r := rand.New(rand.NewSource(46))
	p := someText(r, 1<<21)
	s := frameOf(p)
	for _, at := range []int{1, 2, 3, 4, 5, 6, 7, 8, 9, 100, 1 << 20, len(s) - 2, len(s) - 1} {
		checkSplit(t, framesOf("ahead", "")+s[:at], []string{"ahead", ""}, len(framesOf("ahead", "")), api.ErrTorn)
	}
	checkSplit(t, framesOf("ahead", "")+s, []string{"ahead", "", p}, len(framesOf("ahead", ""))+len(s), api.OK)
}

// checkTurned lets one byte of a frame be another one.
func checkTurned(t *testing.T, s string, at int, c byte) {
	t.Helper()
	b := []byte(s)
	b[at] = c
	if p, rest, e := Get(b); len(p) != 0 || len(rest) != 0 || e != api.ErrFrame {
		t.Fatalf("%.40x, its byte %d being %d: %.40x, %.40x, %d", s, at, c, p, rest, e)
	}
	checkSplit(t, framesOf("ahead", "")+string(b)+frameOf("behind"), []string{"ahead", ""}, len(framesOf("ahead", "")), api.ErrFrame)
}

func TestP4_6EachByteEachTurn(t *testing.T) {
	for _, p := range []string{"", "\x00", "a", "abc", "123456789", "\x00\x00\x00\x00\x00", "\xff\xff\xff\xff\xff", frameOf("in")} {
		s := frameOf(p)
		for at := 1; at < len(s); at++ {
			for c := range 256 {
				if byte(c) != s[at] {
					checkTurned(t, s, at, byte(c))
				}
			}
		}
	}
}

func TestP4_6LongPayloads(t *testing.T) {
	r := rand.New(rand.NewSource(47))
	for _, p := range somePayloads() {
		s := frameOf(p)
		head := len(headOf(len(p)))
		ats := []int{head, head + 3, len(s) - 1}
		for range 50 {
			ats = append(ats, head+r.Intn(len(s)-head))
		}
		for _, at := range ats {
			checkTurned(t, s, at, s[at]^byte(1+r.Intn(255)))
		}
	}
}
