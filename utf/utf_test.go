package utf

import (
	"math"
	"slices"
	"strings"
	"testing"
)

// runeAt reads a rune by the chapter's words alone, bit by bit, so that Decode is held against the document and not against the library it calls.
func runeAt(s string) (int, int) {
	for _, f := range []struct{ size, mask, head, low, high int }{
		{1, 0x80, 0x00, 0, 127},
		{2, 0xE0, 0xC0, 128, 2047},
		{3, 0xF0, 0xE0, 2048, 65535},
		{4, 0xF8, 0xF0, 65536, 1114111},
	} {
		if len(s) < f.size || int(s[0])&f.mask != f.head {
			continue
		}
		x, ok := int(s[0])&^f.mask, true
		for _, c := range []byte(s[1:f.size]) {
			x, ok = x<<6|int(c)&0x3F, ok && c&0xC0 == 0x80
		}
		if ok && f.low <= x && x <= f.high && (x < 55296 || x > 57343) {
			return x, f.size
		}
	}
	return 65533, 1
}

func isLower(r int) int {
	switch {
	case r >= 65 && r <= 90, r >= 192 && r <= 222 && r != 215, r >= 913 && r <= 939 && r != 930, r >= 1040 && r <= 1071:
		return r + 32
	case r >= 1024 && r <= 1039:
		return r + 80
	}
	return r
}

func isPart(r int) bool {
	switch {
	case r >= 48 && r <= 57, r >= 65 && r <= 90, r >= 97 && r <= 122:
		return true
	case r >= 192 && r <= 255:
		return r != 215 && r != 247
	case r >= 913 && r <= 974:
		return r != 930
	}
	return r >= 1024 && r <= 1119
}

// strange are numbers that have no bytes; the great ones would be runes if they were cut to 32, 21 or 16 bits.
var strange = []int{-1, -65, math.MinInt, math.MinInt + 65, math.MinInt32, math.MaxInt, math.MaxInt32, 1114112, 1<<21 + 65, 1<<31 + 65, 1<<32 + 65, 1<<40 + 233, -1<<32 + 65, 55296, 56320, 57343}

// texts are texts of all sorts: none, plain ones, whole runes of each size and their neighbours, and bytes that are no runes.
func texts() []string {
	l := []string{
		"", "a", "Hello, World 09", "ÀÖ×Øß÷ÿ", "ΑΡΣΩΫάώ", "ЀЏАЯаяџѠ", "a\xc3\xa9\xe2\x82\xac\xf0\x9f\x98\x80", "\x00\x7f",
		"\xc2\x80\xdf\xbf\xe0\xa0\x80\xef\xbf\xbf\xf0\x90\x80\x80\xf4\x8f\xbf\xbf", "\xef\xbf\xbd", "\xef\xbf\xbe\xef\xbb\xbf",
		"\x80", "\xbf", "\xc0\x80", "\xc1\xbf", "\xc2", "\xc3A", "\xe0\x9f\xbf", "\xe2\x82", "\xe2\x82A", "\xed\x9f\xbf", "\xed\xa0\x80", "\xed\xbf\xbf", "\xee\x80\x80",
		"\xf0\x8f\xbf\xbf", "\xf0\x9f\x98", "\xf0\x9f\x98A", "\xf4\x90\x80\x80", "\xf5\x80\x80\x80", "\xf8\x88\x80\x80\x80", "\xfe\xff", "\xc3\x89\xff", "A\xc3\xc3\x89",
	}
	seed := uint32(1)
	for n := range 200 {
		b := make([]byte, n%37)
		for i := range b {
			seed = seed*1664525 + 1013904223
			b[i] = byte(seed >> 24)
			if seed>>16&3 == 0 { // many bytes that go on, else runes of several bytes are too rare
				b[i] = b[i]&0x3F | 0x80
			}
		}
		l = append(l, string(b))
	}
	return append(l, strings.Join(l, ""), strings.Repeat("aÉ\xff", 5000))
}

func checkDecode(t *testing.T, s string) {
	t.Helper()
	r, n := Decode(s, 0)
	if x, m := runeAt(s); r != x || n != m {
		t.Fatalf("Decode of %x: %d of %d bytes, not %d of %d", s, r, n, x, m)
	}
}

func TestP1_1DecodeShort(t *testing.T) {
	for a := range 256 {
		checkDecode(t, string([]byte{byte(a)}))
		for b := range 256 {
			checkDecode(t, string([]byte{byte(a), byte(b)}))
			for c := range 256 {
				if a < 0xC0 && c%64 != 0 { // below it the first byte alone tells
					continue
				}
				checkDecode(t, string([]byte{byte(a), byte(b), byte(c)}))
			}
		}
	}
}

func TestP1_1DecodeLong(t *testing.T) {
	edges := []byte{0x00, 0x7F, 0x80, 0x81, 0xBF, 0xC0, 0xFF}
	for a := 0xC0; a < 256; a++ {
		for b := range 256 {
			for _, c := range edges {
				for _, d := range edges {
					checkDecode(t, string([]byte{byte(a), byte(b), c, d}))
					checkDecode(t, string([]byte{byte(a), byte(b), c, d, 0x80}))
				}
			}
		}
	}
}

func TestP1_1DecodePlaces(t *testing.T) {
	for _, s := range texts() {
		for _, at := range []int{-1, -2, math.MinInt, len(s), len(s) + 1, math.MaxInt} {
			if r, n := Decode(s, at); r != 0 || n != 0 {
				t.Errorf("Decode of %x at %d, which is no place: %d, %d", s, at, r, n)
			}
		}
		for at := range len(s) {
			r, n := Decode(s, at)
			if x, m := runeAt(s[at:]); r != x || n != m {
				t.Fatalf("Decode of %x at %d: %d of %d bytes, not %d of %d", s, at, r, n, x, m)
			}
		}
	}
	if r, n := Decode("\x00", 0); r != 0 || n != 1 {
		t.Errorf("the rune 0: %d, %d", r, n)
	}
}

func TestP1_1Runes(t *testing.T) {
	for _, s := range texts() {
		var want []int
		for at := 0; at < len(s); {
			r, n := runeAt(s[at:])
			want, at = append(want, r), at+n
		}
		if l := Runes(s); !slices.Equal(l, want) {
			t.Fatalf("Runes of %x: %v, not %v", s, l, want)
		}
	}
	l := Runes("ab")
	l[0] = 'x'
	if l := Runes("ab"); l[0] != 'a' {
		t.Error("an answer is kept")
	}
}

func TestP1_1Encode(t *testing.T) {
	for _, x := range []struct {
		r int
		s string
	}{
		{0, "\x00"}, {65, "A"}, {127, "\x7f"}, {128, "\xc2\x80"}, {233, "\xc3\xa9"}, {2047, "\xdf\xbf"}, {2048, "\xe0\xa0\x80"}, {8364, "\xe2\x82\xac"},
		{55295, "\xed\x9f\xbf"}, {57344, "\xee\x80\x80"}, {65533, "\xef\xbf\xbd"}, {65535, "\xef\xbf\xbf"}, {65536, "\xf0\x90\x80\x80"}, {128512, "\xf0\x9f\x98\x80"}, {1114111, "\xf4\x8f\xbf\xbf"},
	} {
		if s := Encode(x.r); s != x.s {
			t.Errorf("Encode of %d: %x, not %x", x.r, s, x.s)
		}
	}
	for _, r := range strange {
		if s := Encode(r); s != "\xef\xbf\xbd" {
			t.Errorf("Encode of %d, which has no bytes: %x", r, s)
		}
	}
	l := []int{97, -1, 1114111, 57343, 98}
	if s := Encode(l...); s != "a\xef\xbf\xbd\xf4\x8f\xbf\xbf\xef\xbf\xbdb" {
		t.Errorf("Encode of %v: %x", l, s)
	}
	if !slices.Equal(l, []int{97, -1, 1114111, 57343, 98}) {
		t.Error("what was handed in is changed: ", l)
	}
	if s := Encode(); s != "" {
		t.Errorf("Encode of nothing: %x", s)
	}
}

// numbers gives all runes, numbers beside them, and strange ones.
func numbers(yield func(int) bool) {
	for r := -1000; r < 1115000; r++ {
		if !yield(r) {
			return
		}
	}
	for _, r := range strange {
		if !yield(r) {
			return
		}
	}
}

func TestP1_2(t *testing.T) {
	for r := range numbers {
		if x := Lower(r); x != isLower(r) {
			t.Fatalf("Lower of %d: %d", r, x)
		}
		if x := IsWord(r); x != isPart(r) {
			t.Fatalf("IsWord of %d: %v", r, x)
		}
	}
	for _, x := range [][2]int{{64, 64}, {65, 97}, {90, 122}, {91, 91}, {215, 215}, {222, 254}, {223, 223}, {930, 930}, {939, 971}, {1024, 1104}, {1039, 1119}, {1040, 1072}, {1071, 1103}, {1072, 1072}} {
		if Lower(x[0]) != x[1] {
			t.Errorf("Lower of %d: %d, not %d", x[0], Lower(x[0]), x[1])
		}
	}
	for _, r := range []int{47, 58, 95, 96, 123, 191, 215, 247, 256, 912, 930, 975, 1023, 1120, 65533, -48} {
		if IsWord(r) {
			t.Errorf("%d is told to be a part of a word", r)
		}
	}
}

func TestP1_3Fold(t *testing.T) {
	for _, x := range [][2]string{
		{"", ""}, {"\xc3\x89\xff", "\xc3\xa9\xef\xbf\xbd"}, {"Ab-C 12ß!", "ab-c 12ß!"}, {"ÀÖ×ØÞ÷", "àö×øþ÷"}, {"ΑΡΣΩΫ", "αρσωϋ"}, {"ЀЏАЯ", "ѐџая"},
		{"İĀŽ", "İĀŽ"}, {"\xe2\x84\xaa", "\xe2\x84\xaa"}, {"\xed\xa0\x80", "\xef\xbf\xbd\xef\xbf\xbd\xef\xbf\xbd"}, {"A\xf0\x9f\x98", "a\xef\xbf\xbd\xef\xbf\xbd\xef\xbf\xbd"}, {"\xf0\x9f\x98\x80Z", "\xf0\x9f\x98\x80z"},
	} {
		if s := Fold(x[0]); s != x[1] {
			t.Errorf("Fold of %x: %x, not %x", x[0], s, x[1])
		}
	}
	for _, s := range texts() {
		l := Runes(s)
		for i := range l {
			l[i] = Lower(l[i])
		}
		if f := Fold(s); f != Encode(l...) {
			t.Errorf("Fold of %x: %x", s, f)
		}
	}
}

func TestP1_3Valid(t *testing.T) {
	for _, s := range []string{"", "a", "\x00", "\xef\xbf\xbd", "\xc2\x80", "\xed\x9f\xbf", "\xee\x80\x80", "\xf4\x8f\xbf\xbf", "aé€😀"} {
		if !Valid(s) {
			t.Errorf("%x is told not to be valid", s)
		}
	}
	for _, s := range []string{"\x80", "\xc0\x80", "\xc1\xbf", "\xe0\x9f\xbf", "\xed\xa0\x80", "\xed\xbf\xbf", "\xf0\x8f\xbf\xbf", "\xf4\x90\x80\x80", "a\xff", "\xe2\x82", "\xef\xbf"} {
		if Valid(s) {
			t.Errorf("%x is told to be valid", s)
		}
	}
	for _, s := range texts() {
		if v := Valid(s); v != (Encode(Runes(s)...) == s) {
			t.Errorf("Valid of %x: %v", s, v)
		}
	}
}

func TestP1_4(t *testing.T) {
	var in, out []int
	for r := range numbers {
		x := r
		if r < 0 || r > 1114111 || r >= 55296 && r <= 57343 {
			x = 65533
		}
		if l := Runes(Encode(r)); len(l) != 1 || l[0] != x {
			t.Fatalf("Runes of Encode of %d: %v", r, l)
		}
		in, out = append(in, r), append(out, x)
	}
	if !slices.Equal(Runes(Encode(in...)), out) {
		t.Error("runes that were encoded together come back otherwise")
	}
	if l := Runes(Encode()); len(l) != 0 {
		t.Error(l)
	}
}

func TestP1_5(t *testing.T) {
	var all []int
	for r := range numbers {
		all = append(all, r)
	}
	for _, s := range append(texts(), Encode(all...)) {
		f := Fold(s)
		if Fold(f) != f {
			t.Errorf("Fold of %x, folded again, is another text", s)
		}
		if !Valid(f) {
			t.Errorf("Fold of %x is not valid", s)
		}
	}
}

func TestP1_6(t *testing.T) {
	for _, s := range texts() {
		sum, count := 0, 0
		for sum < len(s) {
			_, n := Decode(s, sum)
			if n < 1 || n > 4 {
				t.Fatalf("a rune of %d bytes in %x at %d", n, s, sum)
			}
			sum, count = sum+n, count+1
		}
		if sum != len(s) || count != len(Runes(s)) {
			t.Errorf("%x: %d bytes of %d, %d runes of %d", s, sum, len(s), count, len(Runes(s)))
		}
	}
}
