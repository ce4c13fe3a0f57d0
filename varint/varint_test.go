package varint

import (
	"bytes"
	"math"
	"math/big"
	"slices"
	"strings"
	"testing"

	"loggia/api"
)

// bytesOf are a number's bytes by the chapter's words alone, by division, so that Put is held against the document and not against its own shifts.
func bytesOf(n uint64) []byte {
	var l []byte
	for {
		l = append(l, byte(n%128))
		if n /= 128; n == 0 {
			break
		}
	}
	for i := range len(l) - 1 {
		l[i] += 128
	}
	return l
}

// numberIn is what Get is to answer, by the chapter's words alone: the whole number has no bound here, so that one above 64 bits is seen.
func numberIn(b []byte) (n uint64, size int, e api.Errno) {
	sum := new(big.Int)
	for i, c := range b {
		sum.Add(sum, new(big.Int).Lsh(big.NewInt(int64(c%128)), uint(7*i)))
		if i == 9 && c > 1 {
			return 0, 0, api.ErrVarint
		}
		if c < 128 {
			if c == 0 && i > 0 || !sum.IsUint64() {
				return 0, 0, api.ErrVarint
			}
			return sum.Uint64(), i + 1, api.OK
		}
	}
	return 0, 0, api.ErrShort
}

// zigzagOf is a zigzag by the chapter's words, without bound.
func zigzagOf(n int) uint64 {
	z := new(big.Int).Mul(big.NewInt(2), big.NewInt(int64(n)))
	if n < 0 {
		z.Neg(z).Sub(z, big.NewInt(1))
	}
	return z.Uint64()
}

// chance gives numbers that are the same at each run.
type chance uint64

func (c *chance) next() uint64 {
	*c = *c*6364136223846793005 + 1442695040888963407
	return uint64(*c>>32)<<32 | uint64((*c*2862933555777941757+3037000493)>>32)
}

// numbers are those at each border of a size and of a bit, small ones, and others of all sizes.
func numbers() []uint64 {
	l := []uint64{300, math.MaxUint64, math.MaxUint64 - 1, math.MaxInt64, math.MaxInt64 + 1}
	for n := range uint64(1000) {
		l = append(l, n)
	}
	for i := range 64 {
		p := uint64(1) << i
		l = append(l, p-1, p, p+1)
	}
	c := chance(1)
	for i := range 2000 {
		l = append(l, c.next()>>(i%64))
	}
	return l
}

func wholes() []int {
	l := []int{math.MinInt, math.MinInt + 1, math.MaxInt, math.MaxInt - 1, math.MinInt32, math.MaxInt32}
	for _, n := range numbers() {
		l = append(l, int(n), -int(n))
	}
	return l
}

// noNumbers are bytes that begin with no number, with what is to be told of them.
func noNumbers() map[string]api.Errno {
	ff := strings.Repeat("\xff", 20)
	m := map[string]api.Errno{
		"": api.ErrShort, "\x80": api.ErrShort, "\xff": api.ErrShort, "\xac": api.ErrShort, "\x80\x80": api.ErrShort,
		ff[:9]: api.ErrShort, strings.Repeat("\x80", 9): api.ErrShort,
		"\x80\x00": api.ErrVarint, "\x80\x00x": api.ErrVarint, "\xff\x00": api.ErrVarint, "\x81\x80\x00": api.ErrVarint, "\x80\x00\x01": api.ErrVarint,
		ff[:10]: api.ErrVarint, ff: api.ErrVarint, ff[:9] + "\x81": api.ErrVarint, ff[:9] + "\x80": api.ErrVarint, ff[:9] + "\x81\x00": api.ErrVarint, ff[:9] + "\x80\x01": api.ErrVarint,
		ff[:9] + "\x02": api.ErrVarint, ff[:9] + "\x03": api.ErrVarint, ff[:9] + "\x7f": api.ErrVarint, ff[:9] + "\x02x": api.ErrVarint,
		strings.Repeat("\x80", 10): api.ErrVarint, strings.Repeat("\x80", 9) + "\x02": api.ErrVarint,
	}
	for i := 1; i < 10; i++ { // a last byte that is 0, wherever it stands
		m[ff[:i]+"\x00"] = api.ErrVarint
		m[strings.Repeat("\x80", i)+"\x00ab"] = api.ErrVarint
	}
	return m
}

// isPartOf tells whether a rest stands in b's own memory, as the bytes from a place on.
func isPartOf(rest, b []byte, at int) bool {
	return len(rest) == len(b)-at && (len(rest) == 0 || &rest[0] == &b[at])
}

// checkNew tells whether a put keeps to new memory: of one b that has room behind it two answers are made, and neither they nor b may see the other.
func checkNew(t *testing.T, what string, put func(b []byte, n int) []byte, same func(n int) []byte) {
	t.Helper()
	room := []byte("ab----------------------")
	b := room[:2]
	x, y := put(b, 1), put(b, 2)
	if string(x) != "ab"+string(same(1)) || string(y) != "ab"+string(same(2)) {
		t.Errorf("%s: two answers from one b are %x and %x", what, x, y)
	}
	for i := range x {
		x[i] = 'x'
	}
	for i := range room[2:] {
		room[2+i] = '+'
	}
	if string(room) != "ab++++++++++++++++++++++" {
		t.Errorf("%s: what was handed in is %q", what, room)
	}
	room[0] = 'z'
	if string(y) != "ab"+string(same(2)) {
		t.Errorf("%s: an answer became %q", what, y)
	}
}

func TestP2_1Put(t *testing.T) {
	for _, c := range []struct {
		n uint64
		b string
	}{
		{0, "\x00"}, {1, "\x01"}, {127, "\x7f"}, {128, "\x80\x01"}, {300, "\xac\x02"}, {16383, "\xff\x7f"}, {16384, "\x80\x80\x01"},
		{1<<63 - 1, "\xff\xff\xff\xff\xff\xff\xff\xff\x7f"}, {1 << 63, "\x80\x80\x80\x80\x80\x80\x80\x80\x80\x01"}, {math.MaxUint64, "\xff\xff\xff\xff\xff\xff\xff\xff\xff\x01"},
	} {
		if b := Put(nil, c.n); string(b) != c.b {
			t.Errorf("Put of %d: %x, not %x", c.n, b, c.b)
		}
	}
	for _, n := range numbers() {
		for _, b := range [][]byte{nil, {}, []byte("\x00"), []byte("abc\xff")} {
			if x := Put(b, n); string(x) != string(b)+string(bytesOf(n)) {
				t.Fatalf("Put of %d behind %x: %x", n, b, x)
			}
		}
	}
}

func TestP2_1Size(t *testing.T) {
	for _, n := range numbers() {
		if s := Size(n); s != len(bytesOf(n)) {
			t.Fatalf("Size of %d: %d", n, s)
		}
	}
	for i := 1; i < 10; i++ {
		p := uint64(1) << (7 * i)
		if Size(p-1) != i || Size(p) != i+1 {
			t.Errorf("the sizes of %d and of the number ahead: %d, %d", p, Size(p), Size(p-1))
		}
	}
	if Size(0) != 1 || Size(math.MaxUint64) != 10 {
		t.Error("the least size, the greatest one: ", Size(0), Size(math.MaxUint64))
	}
}

// checkGet holds Get, and GetInt of the same bytes, against the chapter's words.
func checkGet(t *testing.T, b []byte) {
	t.Helper()
	n, size, want := numberIn(b)
	x, rest, e := Get(b)
	if x != n || e != want {
		t.Fatalf("Get of %x: %d, %d, not %d, %d", b, x, e, n, want)
	}
	y, other, e := GetInt(b)
	if e != want || e == api.OK && zigzagOf(y) != n || e != api.OK && y != 0 {
		t.Fatalf("GetInt of %x: %d, %d", b, y, e)
	}
	if want != api.OK {
		size = len(b)
	}
	if !isPartOf(rest, b, size) || !isPartOf(other, b, size) {
		t.Fatalf("the rests of %x: %x, %x", b, rest, other)
	}
}

func TestP2_1Get(t *testing.T) {
	for _, n := range numbers() {
		for _, more := range []string{"", "x", "\x00", "\x80", "\xff\xff"} {
			b := append(bytesOf(n), more...)
			x, rest, e := Get(b)
			if x != n || e != api.OK || string(rest) != more || !isPartOf(rest, b, len(b)-len(more)) {
				t.Fatalf("Get of %x: %d, %x, %d", b, x, rest, e)
			}
		}
	}
	b := []byte("\x05abc")
	_, rest, _ := Get(b)
	rest[0] = 'z'
	if string(b) != "\x05zbc" {
		t.Errorf("a rest is no part of b: %q", b)
	}
}

func TestP2_1GetRefused(t *testing.T) {
	for s, want := range noNumbers() {
		b := []byte(s)
		if n, rest, e := Get(b); n != 0 || len(rest) != 0 || e != want {
			t.Errorf("Get of %x: %d, %x, %d, not %d", s, n, rest, e, want)
		}
		if string(b) != s {
			t.Errorf("what was handed in is changed: %x, not %x", b, s)
		}
	}
	if n, rest, e := Get(nil); n != 0 || len(rest) != 0 || e != api.ErrShort {
		t.Error("Get of nothing: ", n, rest, e)
	}
}

func TestP2_1GetAllBytes(t *testing.T) {
	for x := range 1 << 16 {
		checkGet(t, []byte{byte(x), byte(x >> 8)})
	}
	for a := range 256 {
		checkGet(t, []byte{byte(a)})
		for _, head := range []string{"\x80\x80", "\xff\x81", strings.Repeat("\x80", 7), strings.Repeat("\x80", 8), strings.Repeat("\x80", 9), strings.Repeat("\xff", 8), strings.Repeat("\xff", 9), strings.Repeat("\xff", 10)} {
			checkGet(t, append([]byte(head), byte(a)))
			for _, c := range []byte{0, 1, 2, 127, 128, 255} {
				checkGet(t, append([]byte(head), byte(a), c))
				checkGet(t, append([]byte(head), byte(a), c, 1))
			}
		}
	}
	c := chance(7)
	for i := range 20000 {
		b := make([]byte, i%14)
		for k := range b {
			b[k] = byte(c.next())
			if i&1 == 0 { // else few numbers have many bytes
				b[k] |= 128
			}
		}
		checkGet(t, b)
	}
}

func TestP2_2(t *testing.T) {
	for _, c := range []struct {
		n int
		b string
	}{
		{0, "\x00"}, {-1, "\x01"}, {1, "\x02"}, {-2, "\x03"}, {63, "\x7e"}, {-64, "\x7f"}, {64, "\x80\x01"}, {-65, "\x81\x01"}, {150, "\xac\x02"},
		{math.MaxInt, "\xfe\xff\xff\xff\xff\xff\xff\xff\xff\x01"}, {math.MinInt, "\xff\xff\xff\xff\xff\xff\xff\xff\xff\x01"}, {math.MinInt + 1, "\xfd\xff\xff\xff\xff\xff\xff\xff\xff\x01"},
	} {
		if b := PutInt(nil, c.n); string(b) != c.b {
			t.Errorf("PutInt of %d: %x, not %x", c.n, b, c.b)
		}
		b := []byte(c.b + "\x80")
		if n, rest, e := GetInt(b); n != c.n || e != api.OK || !isPartOf(rest, b, len(c.b)) {
			t.Errorf("GetInt of %x: %d, %x, %d, not %d", c.b, n, rest, e, c.n)
		}
	}
	for _, n := range wholes() {
		if b := PutInt([]byte("ab"), n); string(b) != "ab"+string(bytesOf(zigzagOf(n))) {
			t.Fatalf("PutInt of %d: %x", n, b)
		}
	}
	for s, want := range noNumbers() {
		if n, rest, e := GetInt([]byte(s)); n != 0 || len(rest) != 0 || e != want {
			t.Errorf("GetInt of %x: %d, %x, %d, not %d", s, n, rest, e, want)
		}
	}
	if n, rest, e := GetInt(nil); n != 0 || len(rest) != 0 || e != api.ErrShort {
		t.Error("GetInt of nothing: ", n, rest, e)
	}
}

// someTexts are texts of lengths at the borders of sizes, some of bytes that are no runes.
func someTexts() []string {
	return []string{"", "a", "\x00", "\x80\xff", "loggia", "\xc3\xa9\xe2\x82\xac", strings.Repeat("a", 127), strings.Repeat("\x80", 128), strings.Repeat("b\xff", 8191), strings.Repeat("c", 16384)}
}

func TestP2_3PutText(t *testing.T) {
	for _, s := range someTexts() {
		for _, b := range [][]byte{nil, {}, []byte("x\x80")} {
			if x := PutText(b, s); string(x) != string(b)+string(bytesOf(uint64(len(s))))+s {
				t.Errorf("PutText of %d bytes behind %x: %d bytes", len(s), b, len(x))
			}
		}
	}
}

func TestP2_3GetText(t *testing.T) {
	for _, s := range someTexts() {
		n := len(s)
		for _, more := range []string{"", "x", "\x80\x00"} {
			b := []byte(string(bytesOf(uint64(n))) + s + more)
			for _, most := range []int{n, n + 1, 1 << 20, math.MaxInt} {
				x, rest, e := GetText(b, most)
				if x != s || !isPartOf(rest, b, len(b)-len(more)) || e != api.OK {
					t.Errorf("GetText of %d bytes, at most %d: %d, %x, %d", n, most, len(x), rest, e)
				}
			}
			for _, most := range []int{n - 1, n / 2, 0, -1, math.MinInt} {
				if x, rest, e := GetText(b, most); n > 0 && (x != "" || len(rest) != 0 || e != api.ErrLong) {
					t.Errorf("GetText of %d bytes, at most %d: %d, %x, %d", n, most, len(x), rest, e)
				}
			}
		}
	}
	for _, most := range []int{0, -1, -1000, math.MinInt} { // below 0 counts as 0, and no byte is not above that
		if s, rest, e := GetText([]byte("\x00ab"), most); s != "" || string(rest) != "ab" || e != api.OK {
			t.Errorf("GetText of no byte, at most %d: %q, %q, %d", most, s, rest, e)
		}
	}
}

func TestP2_3GetTextRefused(t *testing.T) {
	for _, c := range []struct {
		b    string
		most int
		e    api.Errno
	}{
		{"\x03ab", 3, api.ErrShort}, {"\x03", 3, api.ErrShort}, {"\x01", 1, api.ErrShort}, {"\x03ab", 2, api.ErrLong}, {"\x03", 0, api.ErrLong}, {"\x03", -3, api.ErrLong}, {"\x03abc", 2, api.ErrLong},
		{"\xff\xff\xff\xff\xff\xff\xff\xff\x7fab", math.MaxInt, api.ErrShort}, {"\xff\xff\xff\xff\xff\xff\xff\xff\x7fab", math.MaxInt - 1, api.ErrLong},
		{"\x80\x80\x80\x80\x80\x80\x80\x80\x80\x01ab", math.MaxInt, api.ErrLong}, {"\xff\xff\xff\xff\xff\xff\xff\xff\xff\x01ab", math.MaxInt, api.ErrLong}, {"\x80\x80\x80\x80\x10ab", 2, api.ErrLong}, {"\x80\x80\x80\x80\x10ab", math.MaxInt, api.ErrShort},
	} {
		if s, rest, e := GetText([]byte(c.b), c.most); s != "" || len(rest) != 0 || e != c.e {
			t.Errorf("GetText of %x, at most %d: %q, %x, %d, not %d", c.b, c.most, s, rest, e, c.e)
		}
	}
	for b, want := range noNumbers() {
		for _, most := range []int{-1, 0, math.MaxInt} {
			if s, rest, e := GetText([]byte(b), most); s != "" || len(rest) != 0 || e != want {
				t.Errorf("GetText of %x, at most %d: %q, %x, %d, not %d", b, most, s, rest, e, want)
			}
		}
	}
	b := PutText(nil, strings.Repeat("a", 300))
	for i := range b {
		if s, rest, e := GetText(b[:i], 300); s != "" || len(rest) != 0 || e != api.ErrShort {
			t.Errorf("GetText of the first %d bytes: %q, %x, %d", i, s, rest, e)
		}
	}
}

// putEach is PutAll's answer by the chapter's words: PutInt of each, in order.
func putEach(b []byte, l []int) []byte {
	b = slices.Clone(b)
	for _, n := range l {
		b = append(b, bytesOf(zigzagOf(n))...)
	}
	return b
}

func TestP2_4PutAll(t *testing.T) {
	if b := PutAll([]byte("x"), 0, -1, 1, 150); string(b) != "x\x00\x01\x02\xac\x02" {
		t.Errorf("%x", b)
	}
	for _, l := range [][]int{nil, {}, {0}, {-1, 1}, {math.MinInt, math.MaxInt, 0}, wholes()} {
		kept := slices.Clone(l)
		for _, b := range [][]byte{nil, {}, []byte("a\xff")} {
			if x := PutAll(b, l...); !bytes.Equal(x, putEach(b, l)) {
				t.Errorf("PutAll of %d numbers behind %x: %d bytes", len(l), b, len(x))
			}
		}
		if !slices.Equal(l, kept) {
			t.Error("what was handed in is changed")
		}
	}
}

func TestP2_4GetAll(t *testing.T) {
	all := wholes()
	b := append(putEach(nil, all), "\x80\x00"...)
	at := 0
	for n := range len(all) + 1 {
		if n > 300 && n < len(all)-2 {
			at += len(bytesOf(zigzagOf(all[n])))
			continue
		}
		l, rest, e := GetAll(b, n)
		if !slices.Equal(l, all[:n]) || !isPartOf(rest, b, at) || e != api.OK {
			t.Fatalf("the first %d numbers: %d, %d bytes, %d", n, len(l), len(rest), e)
		}
		if n < len(all) {
			at += len(bytesOf(zigzagOf(all[n])))
		}
	}
	for _, s := range []string{"", "ab", "\x80\x00", "\xff"} { // of no number nothing is looked at
		if l, rest, e := GetAll([]byte(s), 0); len(l) != 0 || string(rest) != s || e != api.OK {
			t.Errorf("no number of %x: %v, %x, %d", s, l, rest, e)
		}
	}
}

func TestP2_4GetAllRefused(t *testing.T) {
	refused := func(s string, n int, want api.Errno) {
		t.Helper()
		if l, rest, e := GetAll([]byte(s), n); len(l) != 0 || len(rest) != 0 || e != want {
			t.Errorf("%d numbers of %x: %v, %x, %d, not %d", n, s, l, rest, e, want)
		}
	}
	for _, n := range []int{-1, -2, math.MinInt} {
		for _, s := range []string{"", "\x01\x02", "\x80", "\x80\x00"} {
			refused(s, n, api.ErrArg)
		}
	}
	for s, want := range noNumbers() {
		for ahead, head := range []string{"", "\x02", "\x02\x00", "\x02\x00\xac\x02"} { // so many numbers stand ahead
			refused(head+s, ahead+1, want)
			refused(head+s, ahead+2, want)
			refused(head+s, math.MaxInt, want)
		}
	}
	refused("\x02\x80\x00\xff", 3, api.ErrVarint)                 // the first error, not the last one
	refused("\x02\x04", 3, api.ErrShort)                          // one number too few
	refused("\x02\x04", math.MaxInt, api.ErrShort)                // no room for so many
	refused(strings.Repeat("\x02", 5000), 5001, api.ErrShort)     // many, and one too few
	refused("", 1, api.ErrShort)                                  // none at all
	refused(strings.Repeat("\x02", 99)+"\xff", 100, api.ErrShort) // the last one is cut
}

func TestP2_4Memory(t *testing.T) {
	checkNew(t, "Put", func(b []byte, n int) []byte { return Put(b, uint64(n)) }, func(n int) []byte { return bytesOf(uint64(n)) })
	checkNew(t, "Put of two bytes", func(b []byte, n int) []byte { return Put(b, uint64(n)+300) }, func(n int) []byte { return bytesOf(uint64(n) + 300) })
	checkNew(t, "PutInt", PutInt, func(n int) []byte { return bytesOf(zigzagOf(n)) })
	checkNew(t, "PutText", func(b []byte, n int) []byte { return PutText(b, strings.Repeat("t", n)) }, func(n int) []byte { return append([]byte{byte(n)}, strings.Repeat("t", n)...) })
	checkNew(t, "PutText of nothing", func(b []byte, n int) []byte { return PutText(b, "") }, func(n int) []byte { return []byte{0} })
	checkNew(t, "PutAll", func(b []byte, n int) []byte { return PutAll(b, n, -n) }, func(n int) []byte { return putEach(nil, []int{n, -n}) })
	checkNew(t, "PutAll of nothing", func(b []byte, n int) []byte { return PutAll(b) }, func(n int) []byte { return nil })
	b := []byte("\x03abcd")
	s, _, _ := GetText(b, 3)
	copy(b, "-----")
	if s != "abc" {
		t.Errorf("a text became %q", s)
	}
	b = PutAll(nil, 1, 2, 3)
	x, _, _ := GetAll(b, 3)
	y, _, _ := GetAll(b, 3)
	x[0], b[1] = 9, 9
	if !slices.Equal(y, []int{1, 2, 3}) || x[1] != 2 {
		t.Error("numbers became ", y, x)
	}
}

func TestP2_5ThereAndBack(t *testing.T) {
	for _, more := range []string{"", "\x00", "\x80", "ab\xff"} {
		for _, n := range numbers() {
			if x, rest, e := Get(append(Put(nil, n), more...)); x != n || string(rest) != more || e != api.OK {
				t.Fatalf("%d came back as %d, %x, %d", n, x, rest, e)
			}
		}
		for _, n := range wholes() {
			if x, rest, e := GetInt(append(PutInt(nil, n), more...)); x != n || string(rest) != more || e != api.OK {
				t.Fatalf("%d came back as %d, %x, %d", n, x, rest, e)
			}
		}
		for _, s := range someTexts() {
			if x, rest, e := GetText(append(PutText(nil, s), more...), len(s)); x != s || string(rest) != more || e != api.OK {
				t.Fatalf("%d bytes came back as %d, %x, %d", len(s), len(x), rest, e)
			}
		}
		l := wholes()
		if x, rest, e := GetAll(append(PutAll(nil, l...), more...), len(l)); !slices.Equal(x, l) || string(rest) != more || e != api.OK {
			t.Fatalf("%d numbers came back as %d, %x, %d", len(l), len(x), rest, e)
		}
	}
}

// checkBack puts what is got from any bytes, and holds it against what stood there.
func checkBack(t *testing.T, b []byte) {
	t.Helper()
	if n, rest, e := Get(b); e == api.OK && (string(Put(nil, n))+string(rest) != string(b) || Size(n) != len(b)-len(rest)) {
		t.Fatalf("%x was got as %d, which is put as %x", b, n, Put(nil, n))
	}
	if n, rest, e := GetInt(b); e == api.OK && string(PutInt(nil, n))+string(rest) != string(b) {
		t.Fatalf("%x was got as %d, which is put as %x", b, n, PutInt(nil, n))
	}
	if s, rest, e := GetText(b, 100); e == api.OK && string(PutText(nil, s))+string(rest) != string(b) {
		t.Fatalf("%x was got as %q, which is put as %x", b, s, PutText(nil, s))
	}
	for n := range 4 {
		if l, rest, e := GetAll(b, n); e == api.OK && string(PutAll(nil, l...))+string(rest) != string(b) {
			t.Fatalf("%x was got as %v, which is put as %x", b, l, PutAll(nil, l...))
		}
	}
}

func TestP2_5BackAndThere(t *testing.T) {
	for x := range 1 << 16 {
		checkBack(t, []byte{byte(x), byte(x >> 8)})
		checkBack(t, []byte{byte(x), byte(x >> 8), 0})
		checkBack(t, []byte{byte(x), byte(x >> 8), 1})
	}
	c := chance(11)
	for i := range 20000 {
		b := make([]byte, i%24)
		for k := range b {
			b[k] = byte(c.next() >> (i % 3))
			if i&1 == 0 && k < 9 {
				b[k] |= 128
			}
		}
		checkBack(t, b)
	}
}

func TestP2_6(t *testing.T) {
	for _, n := range numbers() {
		b := Put(nil, n)
		for i := range b {
			if x, rest, e := Get(b[:i]); x != 0 || len(rest) != 0 || e != api.ErrShort {
				t.Fatalf("the first %d bytes of %x: %d, %x, %d", i, b, x, rest, e)
			}
		}
	}
	for _, n := range wholes() {
		b := PutInt(nil, n)
		for i := range b {
			if x, rest, e := GetInt(b[:i]); x != 0 || len(rest) != 0 || e != api.ErrShort {
				t.Fatalf("the first %d bytes of %x: %d, %x, %d", i, b, x, rest, e)
			}
			if l, rest, e := GetAll(append(PutAll(nil, 1, 2), b[:i]...), 3); len(l) != 0 || len(rest) != 0 || e != api.ErrShort {
				t.Fatalf("two numbers and the first %d bytes of %x: %v, %x, %d", i, b, l, rest, e)
			}
		}
	}
}
