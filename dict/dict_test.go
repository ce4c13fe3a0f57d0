package dict

import (
	"math"
	"math/rand"
	"slices"
	"strings"
	"testing"

	"loggia/api"
)

// goodEntries are entries that may be: at the ends, about blocks, and random ones.
func goodEntries() [][]api.Entry {
	l := [][]api.Entry{
		nil, {}, {at("ab", 1, 2, 3)}, of("a"), of("\x00"), of("\xff"), of(xs(64)), of(xs(65)), of("\x00", "\x00\x00", "\x01", "\x7f", "\x80", "\xff", "\xff\x00"), of("a", "ab", "abc", "abd", "b"), of("A", "a", "z", "\xc3\xa9", "\xff"),
		{at("a", 0, 0, 0)}, {at("a", 1<<26, 1<<26, 1<<26)}, {at("a", 1<<26-1, 0, 1<<26)}, {at("a", 0, 1<<26, 1), at("b", 1<<26, 1<<26, 0)}, {at("a", 127, 128, 129)}, {at("a", 16383, 16384, 1<<21)},
		of(xs(1), xs(2), xs(64), xs(65)), of(xs(64)+"a", xs(64)+"b", xs(65)), of(strings.Repeat("\xff", 64), strings.Repeat("\xff", 65)), of("a", "a\x00", "a\x00\x00", "a\x01"),
	}
	for _, n := range []int{1, 2, 15, 16, 17, 31, 32, 33, 48, 49, 300} {
		l = append(l, many(n))
		var steps []string // each is the beginning of the next one, from block to block
		for i := range min(n, 65) {
			steps = append(steps, xs(i+1))
		}
		l = append(l, of(steps...))
		var long []string
		for i := range n {
			long = append(long, xs(63)+string([]byte{byte(i / 256), byte(i)}))
		}
		l = append(l, of(long...))
	}
	var full []api.Entry // blocks of as many bytes as they can have
	for i := range 33 {
		full = append(full, at(string([]byte{byte(200 + i)})+xs(64), 1<<26, 1<<26, 1<<26))
	}
	l = append(l, full[:1], full[:15], full[:16], full)
	r := rand.New(rand.NewSource(11))
	for i := range 400 {
		l = append(l, randomEntries(r, 1+i%90))
	}
	return l
}

// badEntries may not be.
func badEntries() [][]api.Entry {
	l := [][]api.Entry{
		of(""), of("", "a"), of("a", ""), of("a", "", "b"), of("", ""), of(xs(66)), of(xs(67)), of(xs(300)), of(xs(65), xs(66)), of("a", xs(66)), of("a", xs(66), "z"), of("\x00"+xs(65), "a"),
		of("a", "a"), of("a", "b", "b"), of("a", "a", "b"), of(xs(65), xs(65)), of("b", "a"), of("a", "c", "b"), of("b", "a", "c"), of("ab", "a"), of("abc", "ab"), of("a\x00", "a"), of("a", "B"), of("\x80", "\x7f"), of("\xff", "\x7f"), of("\xff", "\x80"), of("\xc3\xa9", "z"), of("\x00", ""), of("a\xff", "ab"), of("\xff\x00", "\xff"),
	}
	for _, n := range oddNumbers {
		l = append(l, []api.Entry{at("a", n, 0, 0)}, []api.Entry{at("a", 0, n, 0)}, []api.Entry{at("a", 0, 0, n)}, []api.Entry{at("a", n, n, n)}, []api.Entry{at("a", 0, 1, 2), at("b", 0, 1, n)}, []api.Entry{at("a", n, 1, 2), at("b", 0, 1, 2)}, []api.Entry{at("a", 1, 1, 2), at("b", 0, n, 2), at("c", 0, 1, 2)})
	}
	for _, n := range []int{15, 16, 17, 31, 32, 33} { // at the end, wherever a block ends, and at its beginning
		last := many(n)[n-1].Term
		l = append(l, append(many(n), at(last, 0, 0, 0)), append(many(n), at(last[:len(last)-1], 0, 0, 0)), append(many(n), at("a", 0, 0, 0)), append(many(n), at("", 0, 0, 0)), append(many(n), at("n"+xs(65), 0, 0, 0)), append(many(n), at("n", 0, 0, -1)), append(of(""), many(n)...), append(of("n"), many(n)...), append(of("msg:aaaa"), many(n)...))
	}
	return l
}

// encoded is Encode of entries, which it neither refuses nor changes.
func encoded(t *testing.T, l []api.Entry) string {
	t.Helper()
	was := slices.Clone(l)
	b, e := Encode(l...)
	if e != api.OK {
		t.Fatalf("Encode of %d entries, %.100v: %d", len(l), l[:min(len(l), 5)], e)
	}
	if !slices.Equal(l, was) {
		t.Fatalf("Encode changes what is handed in: %.100v", l[:min(len(l), 5)])
	}
	return string(b)
}

// opened is Open of bytes, which it neither refuses nor changes.
func opened(t *testing.T, s string) *Dict {
	t.Helper()
	b := []byte(s)
	d, e := Open(b)
	if d == nil || e != api.OK {
		t.Fatalf("Open of %.60x (%d bytes): %v, %d", s, len(s), d, e)
	}
	if string(b) != s {
		t.Fatalf("Open changes what is handed in: %.60x", s)
	}
	return d
}

// refused says that Open must refuse bytes.
func refused(t *testing.T, s string) {
	t.Helper()
	b := []byte(s)
	if d, e := Open(b); d != nil || e != api.ErrDict {
		t.Fatalf("Open of %.80x (%d bytes): %.100v, %d", s, len(s), d.All(), e)
	}
	if string(b) != s {
		t.Fatalf("Open changes what is handed in: %.60x", s)
	}
}

// checkOpen holds Open of bytes against the chapter's words, and tells whether they are those of entries that may be.
func checkOpen(t *testing.T, s string) bool {
	t.Helper()
	l, ok := plainOpen(s)
	if !ok {
		refused(t, s)
	} else if got := opened(t, s).All(); !slices.Equal(got, l) {
		t.Fatalf("Open of %.60x: %.200v, not %.200v", s, got, l)
	}
	return ok
}

func TestP11_1Example(t *testing.T) {
	s := "\x01\x07\x00\x02\x61\x62\x01\x02\x03"
	if got := encoded(t, []api.Entry{{Term: "ab", Off: 1, Len: 2, N: 3}}); got != s {
		t.Errorf("%x", got)
	}
	if l := opened(t, s).All(); !slices.Equal(l, []api.Entry{{Term: "ab", Off: 1, Len: 2, N: 3}}) {
		t.Error(l)
	}
}

func TestP11_1EncodeOfKnown(t *testing.T) {
	zeros := func(terms ...string) []api.Entry {
		l := of(terms...)
		for i := range l {
			l[i].Off, l[i].Len, l[i].N = 0, 0, 0
		}
		return l
	}
	letters := strings.Split("abcdefghijklmnopqrstuvwxyz", "")
	var singles string
	for _, c := range letters {
		singles += "\x00\x01" + c + "\x00\x00\x00"
	}
	for _, c := range []struct {
		l []api.Entry
		s string
	}{
		{nil, "\x00"}, {[]api.Entry{}, "\x00"},
		{[]api.Entry{at("a", 0, 0, 0)}, "\x01\x06\x00\x01a\x00\x00\x00"},
		{[]api.Entry{at("a", 300, 127, 128)}, "\x01\x08\x00\x01a\xac\x02\x7f\x80\x01"},
		{[]api.Entry{at("a", 1<<26, 1<<26-1, 0)}, "\x01\x0c\x00\x01a\x80\x80\x80\x20\xff\xff\xff\x1f\x00"},
		{zeros("a", "ab", "abc", "abd", "b"), "\x05\x1e\x00\x01a\x00\x00\x00\x01\x01b\x00\x00\x00\x02\x01c\x00\x00\x00\x02\x01d\x00\x00\x00\x00\x01b\x00\x00\x00"},
		{zeros("abc", "abcde", "ac"), "\x03\x15\x00\x03abc\x00\x00\x00\x03\x02de\x00\x00\x00\x01\x01c\x00\x00\x00"},
		{zeros("\x7f", "\x80", "\x80\xff"), "\x03\x12\x00\x01\x7f\x00\x00\x00\x00\x01\x80\x00\x00\x00\x01\x01\xff\x00\x00\x00"},
		{zeros(xs(65)), "\x01\x46\x00\x41" + xs(65) + "\x00\x00\x00"},
		{zeros(xs(64), xs(65)), "\x02\x4b\x00\x40" + xs(64) + "\x00\x00\x00\x40\x01x\x00\x00\x00"},
		{zeros(letters[:15]...), "\x0f\x5a" + singles[:15*6]},
		{zeros(letters[:16]...), "\x10\x60" + singles[:16*6]},
		{zeros(letters[:17]...), "\x11\x60" + singles[:16*6] + "\x06" + singles[16*6:17*6]},
		{zeros(letters...), "\x1a\x60" + singles[:16*6] + "\x3c" + singles[16*6:]},
		{zeros(append(letters[:16:16], "pa", "pab")...), "\x12\x60" + singles[:16*6] + "\x0d\x00\x02pa\x00\x00\x00\x02\x01b\x00\x00\x00"}, // the first one of a block shares nothing
	} {
		if got := encoded(t, c.l); got != c.s {
			t.Errorf("Encode of %v: %x, not %x", c.l, got, c.s)
		}
		if l := opened(t, c.s).All(); !slices.Equal(l, c.l) {
			t.Errorf("Open of %x: %v, not %v", c.s, l, c.l)
		}
	}
}

func TestP11_1EncodeByTheWords(t *testing.T) {
	for _, l := range goodEntries() {
		if got, want := encoded(t, l), plainBytes(l); !plainMay(l) || got != want {
			t.Fatalf("Encode of %d entries, %.100v: %.80x, not %.80x", len(l), l[:min(len(l), 5)], got, want)
		}
	}
}

func TestP11_1EncodeRefuses(t *testing.T) {
	for i, l := range badEntries() {
		was := slices.Clone(l)
		if b, e := Encode(l...); len(b) > 0 || e != api.ErrDict || plainMay(l) {
			t.Errorf("Encode of the bad entries %d, %.200v: %.40x, %d", i, l, b, e)
		}
		if !slices.Equal(l, was) {
			t.Errorf("Encode changes the bad entries %d", i)
		}
	}
	if api.ErrDict != 110 {
		t.Error(api.ErrDict)
	}
}

func TestP11_1EncodeOfTurned(t *testing.T) {
	r := rand.New(rand.NewSource(12))
	odd := 0
	for i := range 20000 {
		l := turned(r, randomEntries(r, 1+i%60))
		b, e := Encode(l...)
		switch {
		case plainMay(l) && (e != api.OK || string(b) != plainBytes(l)):
			t.Fatalf("Encode of %.300v: %.60x, %d", l, b, e)
		case !plainMay(l):
			odd++
			if e != api.ErrDict || len(b) > 0 {
				t.Fatalf("Encode of %.300v: %.60x, %d", l, b, e)
			}
		}
	}
	if odd < 5000 || odd > 18000 {
		t.Errorf("%d of 20000 may not be", odd)
	}
}

func TestP11_1EncodeIsNewMemory(t *testing.T) {
	for _, l := range [][]api.Entry{nil, of("a"), many(40)} {
		one, _ := Encode(l...)
		other, _ := Encode(l...)
		for i := range one {
			one[i] = '!'
		}
		if string(other) != plainBytes(l) {
			t.Errorf("two answers share memory: %.60x", other)
		}
	}
}

func TestP11_1AsManyAsThereMayBe(t *testing.T) {
	l := many(api.MaxTerms + 1)
	for _, n := range []int{api.MaxTerms - 1, api.MaxTerms} {
		s := encoded(t, l[:n])
		if s != plainBytes(l[:n]) {
			t.Fatalf("Encode of %d entries: other bytes", n)
		}
		d := opened(t, s)
		if d.Len() != n || !slices.Equal(d.All(), l[:n]) {
			t.Fatalf("Open of %d entries: %d", n, d.Len())
		}
		if e, ok := d.At(n - 1); !ok || e != l[n-1] || d.Floor("n") != n || d.Floor(l[n-1].Term) != n-1 || len(d.Prefix("msg:a")) != 26*26*26 {
			t.Errorf("of %d entries: %v, %v", n, e, ok)
		}
	}
	if b, e := Encode(l...); len(b) > 0 || e != api.ErrDict {
		t.Errorf("Encode of %d entries: %d bytes, %d", len(l), len(b), e)
	}
	refused(t, plainBytes(l))
	refused(t, "\x81\x80\x10"+plainBytes(l[:api.MaxTerms])[3:])
}

func TestP11_1OpenOfBeginnings(t *testing.T) {
	for _, l := range goodEntries() {
		s := plainBytes(l)
		for n := range len(s) {
			if len(s) < 3000 || n < 50 || n > len(s)-50 || n%37 == 0 {
				refused(t, s[:n])
			}
		}
	}
	if d, e := Open(nil); d != nil || e != api.ErrDict {
		t.Error(d, e)
	}
}

func TestP11_1OpenOfMore(t *testing.T) {
	for _, l := range goodEntries() {
		s := plainBytes(l)
		for _, behind := range []string{"\x00", "\x01", "\x80", "\xff", "\x06\x00\x01z\x00\x00\x00", "\x06\x00\x01\xff\x00\x00\x00", s} {
			refused(t, s+behind)
		}
	}
}

func TestP11_1OpenOfShortBytes(t *testing.T) {
	good := 0
	for _, kinds := range []string{"\x00\x01\x02\x05\x06\x07ab\x80", "\x00\x01\x06a"} {
		most := 6
		if len(kinds) < 5 {
			most = 9
		}
		level := []string{""}
		for range most {
			var next []string
			for _, s := range level {
				for _, c := range []byte(kinds) {
					next = append(next, s+string([]byte{c}))
				}
			}
			for _, s := range next {
				if checkOpen(t, s) {
					good++
				}
			}
			level = next
		}
	}
	if good < 60 {
		t.Errorf("only %d of them are good", good)
	}
}

// A block's bytes, without how many they are.
func body(entries ...string) string { return strings.Join(entries, "") }

// blocks are bytes of n entries, in these blocks.
func blocks(n int, bodies ...string) string {
	s := number(n)
	for _, b := range bodies {
		s += number(len(b)) + b
	}
	return s
}

// entry is an entry's bytes: so many bytes shared, these others, and zeros.
func entry(shared int, others string) string {
	return number(shared) + number(len(others)) + others + "\x00\x00\x00"
}

// singles are the bytes of entries of one letter each, from one on.
func singles(first byte, n int) string {
	s := ""
	for i := range n {
		s += entry(0, string([]byte{first + byte(i)}))
	}
	return s
}

func TestP11_1OpenOfSharedTold(t *testing.T) {
	for _, s := range []string{
		blocks(2, body(entry(0, "ab"), entry(1, "c"))), blocks(2, body(entry(0, "a"), entry(1, "b"))), blocks(3, body(entry(0, "ab"), entry(2, "c"), entry(0, "b"))), blocks(17, singles('a', 16), entry(0, "pa")), blocks(2, body(entry(0, xs(65)), entry(0, "y"))), blocks(2, body(entry(0, xs(64)+"a"), entry(64, "b"))),
	} {
		if !checkOpen(t, s) {
			t.Errorf("%x is refused", s)
		}
	}
	for _, s := range []string{
		blocks(2, body(entry(0, "ab"), entry(0, "ac"))), blocks(2, body(entry(0, "a"), entry(0, "ab"))), blocks(2, body(entry(0, "abc"), entry(1, "bd"))), blocks(2, body(entry(0, "ab"), entry(1, "bc"))), // smaller
		blocks(2, body(entry(0, "ab"), entry(3, "c"))), blocks(2, body(entry(0, "a"), entry(2, ""))), blocks(2, body(entry(0, "a"), entry(127, "b"))), blocks(2, body(entry(0, "a"), entry(128, "b"))), blocks(2, body(entry(0, "a"), entry(math.MaxInt, "b"))), // greater
		blocks(2, body(entry(0, "a"), entry(-1, "b"))), blocks(2, body(entry(0, "a"), entry(math.MinInt, "b"))), // 64 bits, of which the first is there
		blocks(1, entry(1, "a")), blocks(1, entry(1, "")), blocks(1, entry(128, "a")), blocks(1, entry(-1, "a")), blocks(17, singles('a', 16), entry(1, "a")), blocks(17, singles('a', 16), entry(1, "")), // at a block's first entry
		blocks(2, body(entry(0, "ab"), entry(2, ""))), blocks(2, body(entry(0, "ab"), entry(1, ""))), blocks(2, body(entry(0, "b"), entry(0, ""))), blocks(1, entry(0, "")), blocks(2, body(entry(0, ""), entry(0, "a"))), // no others
		blocks(2, body(entry(0, "ab"), entry(1, "a"))), blocks(2, body(entry(0, "b"), entry(0, "a"))), blocks(2, body(entry(0, "\x80"), entry(0, "\x7f"))), blocks(17, singles('a', 16), entry(0, "p")), blocks(17, singles('a', 16), entry(0, "o")), blocks(17, singles('a', 16), entry(0, "A")), blocks(17, singles('a', 16), entry(0, "")), // not rising
		blocks(1, entry(0, xs(66))), blocks(2, body(entry(0, xs(65)), entry(65, "x"))), blocks(2, body(entry(0, "x"), entry(1, xs(65)))), blocks(2, body(entry(0, xs(64)+"a"), entry(64, "bb"))), blocks(1, entry(0, xs(128))), // too long
	} {
		if checkOpen(t, s) {
			t.Errorf("%x is taken", s)
		}
	}
}

func TestP11_1OpenOfBlocksToldWrong(t *testing.T) {
	a16, b1 := singles('a', 16), singles('q', 1)
	for _, s := range []string{blocks(16, a16), blocks(17, a16, b1), blocks(32, a16, singles('q', 16)), blocks(33, a16, singles('q', 16), singles('\x90', 1))} {
		if !checkOpen(t, s) {
			t.Errorf("%x is refused", s)
		}
	}
	for _, s := range []string{
		blocks(17, a16+b1), blocks(17, singles('a', 15), singles('p', 2)), blocks(17, b1, a16), blocks(17, a16, "", b1), blocks(17, "", a16+b1), blocks(17, a16, b1, ""), blocks(16, a16, ""), blocks(0, ""), blocks(0, b1), blocks(1, "", b1), blocks(1, ""), blocks(1, b1, ""), // other blocks
		blocks(16, a16, b1), blocks(15, a16), blocks(17, a16), blocks(18, a16, b1), blocks(33, a16, b1), blocks(32, a16), blocks(1, singles('a', 2)), blocks(2, singles('a', 1)), blocks(0, a16), blocks(16, a16+b1), blocks(17, a16, singles('q', 2)), blocks(1, strings.Repeat(b1, 300)), blocks(16, singles('a', 100)), // another count
		number(16) + number(95) + a16, number(16) + number(97) + a16, number(16) + number(0) + a16, number(16) + number(90) + a16, number(16) + number(102) + a16, number(16) + number(97) + a16 + "\x00", // another length
		number(17) + number(96) + a16 + number(5) + b1, number(17) + number(96) + a16 + number(7) + b1, number(17) + number(95) + a16 + number(6) + b1, number(17) + number(97) + a16 + number(6) + b1, number(17) + number(103) + a16 + number(6) + b1, number(17) + number(102) + a16 + b1, number(17) + a16 + b1,
		number(1) + number(math.MaxInt) + b1, number(1) + number(-1) + b1, number(1) + number(math.MinInt) + b1, number(1) + number(1<<32+6) + b1, number(math.MaxInt), number(-1), number(math.MinInt) + "\x00", number(1 << 18), number(1<<18) + b1, number(1<<18+1) + b1,
	} {
		if checkOpen(t, s) {
			t.Errorf("%.80x is taken", s)
		}
	}
}

// long is a number's bytes with so many more than it needs.
func long(n, more int) string {
	s := []byte(number(n))
	s[len(s)-1] |= 128
	return string(s) + strings.Repeat("\x80", more-1) + "\x00"
}

func TestP11_1OpenOfNumbersToldTooLong(t *testing.T) {
	for _, more := range []int{1, 2, 8, 9, 12} {
		for i := range 5 {
			told := []string{"\x00", "\x01", "\x00", "\x00", "\x00"} // shared, others, Off, Len, N
			told[i] = long(int(told[i][0]), more)
			refused(t, blocks(1, told[0]+told[1]+"a"+told[2]+told[3]+told[4]))
			told[i] = "\x80\x80\x80\x80\x80\x80\x80\x80\x80\x02" // the tenth byte is above 1
			refused(t, blocks(1, told[0]+told[1]+"a"+told[2]+told[3]+told[4]))
		}
		refused(t, long(0, more))
		refused(t, long(1, more)+number(6)+entry(0, "a"))
		refused(t, number(1)+long(6, more)+entry(0, "a"))
		refused(t, number(17)+number(96)+singles('a', 16)+long(6, more)+entry(0, "q"))
	}
	refused(t, strings.Repeat("\xff", 1000))
	refused(t, strings.Repeat("\x80", 1000))
}

func TestP11_1OpenOfNumbersAtTheEnds(t *testing.T) {
	for _, n := range append(slices.Clone(oddNumbers), 0, 1, 1<<26-1, 1<<26) {
		for i := range 3 {
			told := []string{"\x05", "\x06", "\x07"}
			told[i] = number(n)
			s := blocks(2, body("\x00\x01a"+strings.Join(told, ""), entry(0, "b")))
			if ok := checkOpen(t, s); ok != (n >= 0 && n <= 67108864) {
				t.Errorf("%d at %d: %v", n, i, ok)
			}
		}
	}
}

func TestP11_1OpenOfBad(t *testing.T) {
	for _, l := range badEntries() { // the bytes that they would have
		refused(t, plainBytes(l))
	}
}

func TestP11_1OpenByTheWords(t *testing.T) {
	r := rand.New(rand.NewSource(13))
	good := 0
	for i := range 40000 {
		s := []byte(plainBytes(randomEntries(r, 1+i%40)))
		for range 1 + r.Intn(2) {
			at := r.Intn(len(s))
			if r.Intn(3) == 0 {
				at = min(at, r.Intn(12))
			}
			switch r.Intn(5) {
			case 0:
				s[at] = byte(r.Intn(256))
			case 1:
				s[at] += byte(r.Intn(3) - 1)
			case 2:
				s = slices.Insert(s, at, byte(r.Intn(256)))
			case 3:
				s = append(slices.Delete(s, at, at+1), 0)
			case 4:
				s[at] ^= 1 << r.Intn(8)
			}
		}
		if checkOpen(t, string(s)) {
			good++
		}
	}
	if good < 1000 || good > 39000 {
		t.Errorf("%d of 40000 are good", good)
	}
}

func TestP11_1OpenOfAnyBytes(t *testing.T) {
	r := rand.New(rand.NewSource(14))
	for range 20000 {
		b := make([]byte, r.Intn(60))
		r.Read(b)
		if len(b) > 1 && r.Intn(2) == 0 {
			b[0], b[1] = byte(1+r.Intn(3)), byte(len(b)-2)
		}
		checkOpen(t, string(b))
	}
}
