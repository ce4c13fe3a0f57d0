package lz

import (
	"encoding/binary"
	"math"
	"math/rand"
	"strings"
	"testing"

	"loggia/api"
)

// headOf are the four bytes that tell how many packed ones stand for.
func headOf(n int) string {
	return string(binary.BigEndian.AppendUint32(nil, uint32(n)))
}

// runOf are the orders of bytes that stand for themselves.
func runOf(s string) string {
	var out strings.Builder
	for ; len(s) > 128; s = s[128:] {
		out.WriteString("\x7f" + s[:128])
	}
	if s != "" {
		out.WriteString(string([]byte{byte(len(s) - 1)}) + s)
	}
	return out.String()
}

// matchOf is the order of a match.
func matchOf(size, back int) string {
	return string([]byte{byte(size + 124), byte(back / 256), byte(back % 256)})
}

// sameFrom is how many bytes from two places on are alike, 131 at most; at is the later one.
func sameFrom(s string, from, at int) int {
	n := 0
	for n < 131 && at+n < len(s) && s[from+n] == s[at+n] {
		n++
	}
	return n
}

// longestOf is a place's longest match by the chapter's words, of alike ones the nearest; 0: it has none.
func longestOf(s string, ahead []int, at int) (size, back int) {
	for i := len(ahead) - 1; i >= 0 && at-ahead[i] <= 65535 && size < 131; i-- {
		if n := sameFrom(s, ahead[i], at); n >= 4 && n > size {
			size, back = n, at-ahead[i]
		}
	}
	return size, back
}

// packedOf are the packed bytes by the chapter's words. Ahead are the places of each four bytes: no other one may be a match.
func packedOf(s string) string {
	var out strings.Builder
	out.WriteString(headOf(len(s)))
	ahead := map[string][]int{}
	own, at := 0, 0
	for at < len(s) {
		size, back := 0, 0
		if at+4 <= len(s) {
			size, back = longestOf(s, ahead[s[at:at+4]], at)
		}
		if size > 0 {
			out.WriteString(runOf(s[own:at]) + matchOf(size, back))
			own = at + size
		}
		for next := at + max(1, size); at < next; at++ {
			if at+4 <= len(s) {
				ahead[s[at:at+4]] = append(ahead[s[at:at+4]], at)
			}
		}
	}
	out.WriteString(runOf(s[own:]))
	return out.String()
}

// unpackedOf is what Unpack is to answer, by the chapter's words.
func unpackedOf(s string) (string, api.Errno) {
	if len(s) < 4 {
		return "", api.ErrShort
	}
	size := int(binary.BigEndian.Uint32([]byte(s)))
	if size > 1<<24 {
		return "", api.ErrLong
	}
	var out []byte
	for s = s[4:]; s != ""; {
		c := int(s[0])
		if c < 128 {
			if len(s) < c+2 {
				return "", api.ErrLZ
			}
			out, s = append(out, s[1:c+2]...), s[c+2:]
			continue
		}
		if len(s) < 3 {
			return "", api.ErrLZ
		}
		back := int(s[1])*256 + int(s[2])
		if back == 0 || back > len(out) {
			return "", api.ErrLZ
		}
		for range c - 124 {
			out = append(out, out[len(out)-back])
		}
		s = s[3:]
	}
	if len(out) != size {
		return "", api.ErrLZ
	}
	return string(out), api.OK
}

// packed is Pack of a text, which it neither refuses nor changes.
func packed(t *testing.T, s string) string {
	t.Helper()
	b := []byte(s)
	got, e := Pack(b)
	if e != api.OK {
		t.Fatalf("Pack of %d bytes: %d", len(s), e)
	}
	if string(b) != s {
		t.Fatalf("Pack changes what is handed in: %.40x, not %.40x", b, s)
	}
	return string(got)
}

// differAt is where two texts begin to differ.
func differAt(x, y string) int {
	n := min(len(x), len(y))
	for i := range n {
		if x[i] != y[i] {
			return i
		}
	}
	return n
}

// checkPack holds Pack of bytes against what is wanted, and lets them be unpacked.
func checkPack(t *testing.T, s, want string) {
	t.Helper()
	got := packed(t, s)
	if i := differAt(got, want); got != want {
		t.Fatalf("Pack of %.60x (%d bytes): from %d on %.40x, not %.40x", s, len(s), i, got[i:], want[i:])
	}
	checkBack(t, s, got)
}

// checkBack lets the packed bytes of s be unpacked, and holds their number against Bound.
func checkBack(t *testing.T, s, got string) {
	t.Helper()
	if n, e := Size([]byte(got)); n != len(s) || e != api.OK {
		t.Fatalf("Size of what %d bytes are packed to: %d, %d", len(s), n, e)
	}
	if u, e := Unpack([]byte(got)); string(u) != s || e != api.OK {
		t.Fatalf("%.60x (%d bytes) is unpacked as %.60x (%d bytes), %d", s, len(s), u, len(u), e)
	}
	if len(got) > Bound(len(s)) {
		t.Fatalf("%.60x (%d bytes) is packed to %d bytes, more than %d", s, len(s), len(got), Bound(len(s)))
	}
}

// checkWords holds Pack of bytes against the chapter's words.
func checkWords(t *testing.T, s string) {
	t.Helper()
	checkPack(t, s, packedOf(s))
}

// checkUnpack holds Unpack of bytes against what is wanted.
func checkUnpack(t *testing.T, s, want string, why api.Errno) {
	t.Helper()
	b := []byte(s)
	got, e := Unpack(b)
	if string(got) != want || e != why {
		t.Fatalf("Unpack of %.60x (%d bytes): %.60x (%d bytes), %d, not %.60x, %d", s, len(s), got, len(got), e, want, why)
	}
	if string(b) != s {
		t.Fatalf("Unpack changes what is handed in: %.40x, not %.40x", b, s)
	}
}

// apart are n bytes among which no four stand twice: numbers of three bytes below 240 that rise by one, each behind a mark.
func apart(n int) string {
	b := make([]byte, 0, n+4)
	for i := 0; len(b) < n; i++ {
		b = append(b, 255, byte(i%240), byte(i/240%240), byte(i/57600))
	}
	return string(b[:n])
}

// others are bytes that apart has none of.
const others = "\xf0\xf1\xf2\xf3\xf4\xf5\xf6\xf7\xf8\xf9\xfa\xfb\xfc\xfd\xfe"

// kindsOf are n bytes of so many kinds that a seed makes.
func kindsOf(r *rand.Rand, n, kinds int) string {
	b := make([]byte, n)
	for i := range b {
		b[i] = byte(r.Intn(kinds))
	}
	return string(b)
}

// someTexts are texts of many kinds, of up to about n bytes: of few and many kinds of bytes, rows, pieces that come again, one kind with others between.
func someTexts(r *rand.Rand, n int) []string {
	l := []string{}
	for _, kinds := range []int{1, 2, 3, 4, 16, 256} {
		l = append(l, kindsOf(r, r.Intn(n), kinds))
	}
	row := kindsOf(r, 1+r.Intn(300), 256)
	l = append(l, strings.Repeat(row, n/len(row)))
	var again, rare strings.Builder
	again.WriteString(kindsOf(r, 200, 8))
	for again.Len() < n {
		s := again.String()
		at := r.Intn(len(s))
		again.WriteString(s[at:min(len(s), at+r.Intn(160))] + kindsOf(r, r.Intn(3), 256))
	}
	for rare.Len() < n {
		rare.WriteString(strings.Repeat("a", r.Intn(150)) + kindsOf(r, 1, 5))
	}
	return append(l, again.String(), rare.String())
}

func TestP5_1PackOfKnown(t *testing.T) {
	for _, c := range []struct{ s, orders string }{
		{"", ""},
		{"a", "\x00a"},
		{"abc", "\x02abc"},
		{"aaaa", "\x03aaaa"},
		{"aaaaa", "\x00a\x80\x00\x01"},
		{"abababababX", "\x01ab\x84\x00\x02\x00X"},
		{"abcdabcd", "\x03abcd\x80\x00\x04"},
		{"abcdabc", "\x06abcdabc"},
		{"abcdXabcdYabcd", "\x04abcdX\x80\x00\x05\x00Y\x80\x00\x05"},
	} {
		checkPack(t, c.s, headOf(len(c.s))+c.orders)
	}
	for _, b := range [][]byte{nil, {}} {
		if got, e := Pack(b); string(got) != "\x00\x00\x00\x00" || e != api.OK {
			t.Errorf("Pack of nothing: %x, %d", got, e)
		}
	}
}

func TestP5_1Runs(t *testing.T) {
	all := apart(1000)
	for _, n := range []int{1, 2, 3, 4, 126, 127, 128, 129, 130, 255, 256, 257, 383, 384, 385, 1000} {
		s := all[:n]
		checkPack(t, s, headOf(n)+runOf(s)) // at the end
		s = all[:n] + "aaaaaaaaa"
		checkPack(t, s, headOf(n+9)+runOf(all[:n]+"a")+matchOf(8, 1)) // ahead of a match
		s = "aaaaaaaaa" + all[:n]
		checkPack(t, s, headOf(n+9)+runOf("a")+matchOf(8, 1)+runOf(all[:n])) // behind one
	}
	checkPack(t, all[:127], headOf(127)+"\x7e"+all[:127])
	checkPack(t, all[:128], headOf(128)+"\x7f"+all[:128])
	checkPack(t, all[:129], headOf(129)+"\x7f"+all[:128]+"\x00"+all[128:129])
}

// matchesOf are the orders of n bytes that go on, from so far back, as long as may be; left are those too few for a match.
func matchesOf(n, back int) (orders string, left int) {
	for left = n; left >= 4; left -= min(left, 131) {
		orders += matchOf(min(left, 131), back)
	}
	return orders, left
}

// A piece that comes again, of each length: from 4 on it is a match, behind 131 there is a next one.
func TestP5_1LengthsOfMatches(t *testing.T) {
	all := apart(300) + others[:1]
	for n := 1; n <= 300; n++ {
		for _, end := range []string{"", "\xfe"} {
			s := all + all[:n] + end
			orders, left := matchesOf(n, 301)
			if n < 4 {
				checkPack(t, s, headOf(len(s))+runOf(s))
			} else {
				checkPack(t, s, headOf(len(s))+runOf(all)+orders+runOf(all[n-left:n]+end))
			}
		}
	}
	s := all + all[:131] + "\xfe"
	checkPack(t, s, headOf(len(s))+runOf(all)+"\xff\x01\x2d"+"\x00\xfe")
	s = all + all[:132] + "\xfe"
	checkPack(t, s, headOf(len(s))+runOf(all)+"\xff\x01\x2d"+"\x01"+all[131:132]+"\xfe")
	s = all + all[:4]
	checkPack(t, s, headOf(len(s))+runOf(all)+"\x80\x01\x2d")
	s = all + all[:3] + "\xfe"
	checkPack(t, s, headOf(len(s))+runOf(all+all[:3]+"\xfe"))
}

// Matches that overlap: a row of few bytes, over and over.
func TestP5_1Overlap(t *testing.T) {
	all := apart(140)
	for _, back := range []int{1, 2, 3, 4, 5, 7, 8, 9, 15, 16, 17, 130, 131, 132, 140} {
		for _, n := range []int{3, 4, 5, 130, 131, 132, 133, 134, 135, 136, 262, 263, 400} {
			s := all[:back]
			for i := range n {
				s += s[i : i+1]
			}
			if orders, left := matchesOf(n, back); n < 4 {
				checkPack(t, s, headOf(len(s))+runOf(s))
			} else {
				checkPack(t, s, headOf(len(s))+runOf(all[:back])+orders+runOf(s[len(s)-left:]))
			}
		}
	}
}

func TestP5_1Farthest(t *testing.T) {
	all := apart(140000)
	for _, piece := range []string{others[:4], others[:12]} {
		for _, ahead := range []int{0, 1, 3, 65535, 65536, 65537, 70000} {
			for _, back := range []int{65533, 65534, 65535, 65536, 65537, 65538, 68000} {
				s := all[:ahead] + "\xfe" + piece + all[ahead:ahead+back-len(piece)]
				want := runOf(s) + matchOf(len(piece), back)
				if back > 65535 {
					want = runOf(s + piece)
				}
				checkPack(t, s+piece, headOf(len(s+piece))+want)
			}
		}
	}
}

// The longer one is far, a shorter one is near.
func TestP5_1FarthestOfTwo(t *testing.T) {
	all := apart(66000)
	for _, ahead := range []int{0, 1, 65536} {
		for back, want := range map[int]string{
			65535: matchOf(9, 65535),
			65536: matchOf(6, 106) + runOf(others[6:9]),
		} {
			s := strings.Repeat("-", ahead) + others[:9] + all[:back-116] + "\xfe" + others[:6] + all[65900:] + others[:9]
			checkWords(t, s)
			if got := packed(t, s); !strings.HasSuffix(got, want) {
				t.Errorf("%d back: %x, not %x", back, got[len(got)-20:], want)
			}
		}
	}
}

func TestP5_1NearestOfAlikeOnes(t *testing.T) {
	for _, c := range []struct{ s, orders string }{
		{"abcd1abcd2abcd3abcd", runOf("abcd1") + matchOf(4, 5) + runOf("2") + matchOf(4, 5) + runOf("3") + matchOf(4, 5)},
		{"abcdef1abcd2abcdxyzabcdef", runOf("abcdef1") + matchOf(4, 7) + runOf("2") + matchOf(4, 5) + runOf("xyz") + matchOf(6, 19)}, // the longest ahead of the nearest
		{"abcde1abcdef2abcdeg3abcde", runOf("abcde1") + matchOf(5, 6) + runOf("f2") + matchOf(5, 7) + runOf("g3") + matchOf(5, 7)},
		{"abcdz1abcdm2abcda3abcdn", runOf("abcdz1") + matchOf(4, 6) + runOf("m2") + matchOf(4, 6) + runOf("a3") + matchOf(4, 6) + runOf("n")},
		{"abcda1abcdm2abcdz3abcdn", runOf("abcda1") + matchOf(4, 6) + runOf("m2") + matchOf(4, 6) + runOf("z3") + matchOf(4, 6) + runOf("n")},
	} {
		checkPack(t, c.s, headOf(len(c.s))+c.orders)
		checkWords(t, c.s)
	}
	long := apart(140) // alike in more than may be told
	s := long + "1" + long + "2" + long
	checkPack(t, s, headOf(len(s))+runOf(long+"1")+matchOf(131, 141)+matchOf(9, 141)+runOf("2")+matchOf(131, 141)+matchOf(9, 141))
	s = long + "1" + long[:135] + "2" + long // the nearest is as long as may be: that a farther one goes on longer counts for nothing
	checkPack(t, s, headOf(len(s))+runOf(long+"1")+matchOf(131, 141)+matchOf(4, 141)+runOf("2")+matchOf(131, 136)+matchOf(9, 277))
}

// Places within matches count, also such as no order begins at.
func TestP5_1PlacesWithinMatches(t *testing.T) {
	s := "abcdefgh1abcdefgh2cdef"
	checkPack(t, s, headOf(len(s))+runOf("abcdefgh1")+matchOf(8, 9)+runOf("2")+matchOf(4, 7))
	s = "abcdefgh1abcdefghXY2ghXY" // across a match's end
	checkPack(t, s, headOf(len(s))+runOf("abcdefgh1")+matchOf(8, 9)+runOf("XY2")+matchOf(4, 5))
}

// The longest match at each place counts, also where a longer one begins a byte behind.
func TestP5_1FromTheFirstByteOn(t *testing.T) {
	s := "abcd1bcdefghij2abcdefghij"
	checkPack(t, s, headOf(len(s))+runOf("abcd1bcdefghij2")+matchOf(4, 15)+matchOf(6, 11))
}

func TestP5_1ByTheWordsAllShort(t *testing.T) {
	for kinds, most := range map[int]int{2: 11, 3: 8, 4: 6} {
		for n := range most + 1 {
			for x := range int(math.Pow(float64(kinds), float64(n))) {
				b := make([]byte, n)
				for i := range b {
					b[i] = byte('a' + x%kinds)
					x /= kinds
				}
				checkWords(t, string(b))
			}
		}
	}
}

func TestP5_1ByTheWords(t *testing.T) {
	r := rand.New(rand.NewSource(51))
	for range 400 {
		for _, s := range someTexts(r, 1500) {
			checkWords(t, s)
		}
	}
	for range 3 {
		for _, s := range someTexts(r, 20000) {
			checkWords(t, s)
		}
	}
}

// Texts that are longer than the farthest distance, several times.
func TestP5_1ByTheWordsFar(t *testing.T) {
	r := rand.New(rand.NewSource(52))
	piece := kindsOf(r, 300, 256)
	for _, n := range []int{65530, 65535, 65536, 65537, 65540, 131071, 131072, 200000} {
		b := []byte(kindsOf(r, 300000, 256))
		for at := 0; at < len(b); at += n / (1 + r.Intn(4)) {
			from := r.Intn(len(piece))
			copy(b[at:], piece[from:from+r.Intn(len(piece)-from)])
		}
		checkWords(t, string(b))
		checkWords(t, kindsOf(r, n, 256)+kindsOf(r, 40000, 12))
		half := kindsOf(r, n, 64)
		checkWords(t, half+half[:min(n, 70000)]+half)
	}
	checkWords(t, apart(140000)+apart(70000))
}

func TestP5_1OfTheMost(t *testing.T) {
	s := strings.Repeat("a", api.MaxLZ+1)
	matches, left := (api.MaxLZ-1)/131, (api.MaxLZ-1)%131
	checkPack(t, s[1:], headOf(api.MaxLZ)+runOf("a")+strings.Repeat(matchOf(131, 1), matches)+matchOf(left, 1))
	for _, n := range []int{api.MaxLZ + 1, api.MaxLZ + 2, 2 * api.MaxLZ} {
		if b, e := Pack(make([]byte, n)); len(b) != 0 || e != api.ErrLong {
			t.Errorf("Pack of %d bytes: %d bytes, %d", n, len(b), e)
		}
	}
	s = apart(api.MaxLZ)
	checkPack(t, s, headOf(api.MaxLZ)+runOf(s))
}

func TestP5_1PackIsNewMemory(t *testing.T) {
	b := []byte("abcdefgh")
	x, _ := Pack(b)
	y, _ := Pack(b)
	copy(b, "-------")
	if string(x) != headOf(8)+runOf("abcdefgh") {
		t.Errorf("an answer is what was handed in: %q", x)
	}
	clear(x)
	if string(y) != headOf(8)+runOf("abcdefgh") || string(b) != "-------h" {
		t.Errorf("an answer's change is seen: %q, %q", y, b)
	}
}

func TestP5_1Bound(t *testing.T) {
	for _, c := range []struct{ n, want int }{
		{math.MinInt, 0}, {math.MinInt32, 0}, {-1 << 24, 0}, {-129, 0}, {-5, 0}, {-4, 0}, {-1, 0},
		{0, 4}, {1, 6}, {2, 7}, {127, 132}, {128, 133}, {129, 135}, {255, 261}, {256, 262}, {257, 264}, {1000, 1012},
		{api.MaxLZ - 1, 16777215 + 4 + 131072}, {api.MaxLZ, 16777216 + 4 + 131072},
		{api.MaxLZ + 1, 0}, {api.MaxLZ + 128, 0}, {2 * api.MaxLZ, 0}, {1 << 32, 0}, {1<<32 + 1, 0}, {math.MaxInt - 200, 0}, {math.MaxInt, 0},
	} {
		if got := Bound(c.n); got != c.want {
			t.Errorf("Bound of %d: %d, not %d", c.n, got, c.want)
		}
	}
	for n := range 2000 {
		s := apart(n) // such as have that many
		if got := len(packed(t, s)); got != Bound(n) {
			t.Fatalf("%d bytes that stand for themselves are packed to %d, Bound is %d", n, got, Bound(n))
		}
	}
}

func TestP5_2UnpackOfKnown(t *testing.T) {
	for _, c := range []struct{ orders, want string }{
		{"", ""},
		{"\x00a", "a"},
		{"\x02abc", "abc"},
		{"\x00a\x80\x00\x01", "aaaaa"},
		{"\x00a\xff\x00\x01", strings.Repeat("a", 132)},
		{"\x01ab\x84\x00\x02\x00X", "abababababX"},
		{"\x03abcd\x80\x00\x04", "abcdabcd"},
		{"\x7f" + strings.Repeat("xy", 64), strings.Repeat("xy", 64)},
		{"\x00a\x00b\x01cd", "abcd"},                           // runs that are shorter than they might be
		{"\x03aaaa\x03aaaa", "aaaaaaaa"},                       // and where a match might be
		{"\x03aaaa\x80\x00\x04\x80\x00\x01", "aaaaaaaaaaaa"},   // a farther one, a shorter one
		{"\x04abcde\x80\x00\x05\x80\x00\x05", "abcdeabcdeabc"}, // two ones for one
	} {
		checkUnpack(t, headOf(len(c.want))+c.orders, c.want, api.OK)
	}
}

func TestP5_2UnpackOfTheMost(t *testing.T) {
	s := "\x00a" + strings.Repeat("\xff\x00\x01", (api.MaxLZ-1)/131)
	left := (api.MaxLZ - 1) % 131
	want := strings.Repeat("a", api.MaxLZ)
	checkUnpack(t, headOf(api.MaxLZ)+s+matchOf(left, 1), want, api.OK)
	checkUnpack(t, headOf(api.MaxLZ)+s+matchOf(left+1, 1), "", api.ErrLZ)
	checkUnpack(t, headOf(api.MaxLZ)+s+matchOf(left-1, 1), "", api.ErrLZ)
	checkUnpack(t, headOf(api.MaxLZ-1)+s+matchOf(left, 1), "", api.ErrLZ)
	checkUnpack(t, headOf(api.MaxLZ+1)+s+matchOf(left+1, 1), "", api.ErrLong)
	checkUnpack(t, headOf(api.MaxLZ), "", api.ErrLZ)
	run := apart(api.MaxLZ)
	checkUnpack(t, headOf(api.MaxLZ)+runOf(run), run, api.OK)
}

func TestP5_2Short(t *testing.T) {
	for _, s := range []string{"", "\x00", "\x00\x00", "\x00\x00\x00", "\xff", "\xff\xff\xff", "\x01\x00\x01", "abc"} {
		checkUnpack(t, s, "", api.ErrShort)
		if n, e := Size([]byte(s)); n != 0 || e != api.ErrShort {
			t.Errorf("Size of %x: %d, %d", s, n, e)
		}
	}
	if b, e := Unpack(nil); len(b) != 0 || e != api.ErrShort {
		t.Errorf("Unpack of nothing: %x, %d", b, e)
	}
	if n, e := Size(nil); n != 0 || e != api.ErrShort {
		t.Errorf("Size of nothing: %d, %d", n, e)
	}
}

func TestP5_2Long(t *testing.T) {
	for _, s := range []string{"\x01\x00\x00\x01", "\x01\x00\x00\x01\x00a", "\x01\x01\x00\x00", "\x02\x00\x00\x00", "\x7f\xff\xff\xff", "\x80\x00\x00\x00", "\x80\x00\x00\x01\x00a", "\xff\xff\xff\xff", "\xff\xff\xff\xff\x80\x00\x00"} {
		checkUnpack(t, s, "", api.ErrLong) // also if the orders are none
		if n, e := Size([]byte(s)); n != 0 || e != api.ErrLong {
			t.Errorf("Size of %x: %d, %d", s, n, e)
		}
	}
}

// Size asks for nothing of the orders.
func TestP5_2Size(t *testing.T) {
	for _, n := range []int{0, 1, 255, 256, 257, 65535, 65536, 1<<23 + 1<<15 + 1<<7, api.MaxLZ - 1, api.MaxLZ} {
		for _, more := range []string{"", "\x00", "\x00a", "\x80\x00\x00", "\xff"} {
			b := []byte(headOf(n) + more)
			if got, e := Size(b); got != n || e != api.OK {
				t.Errorf("Size of %x: %d, %d, not %d", b, got, e, n)
			}
			if string(b) != headOf(n)+more {
				t.Errorf("Size changes what is handed in: %x", b)
			}
		}
	}
}

// What is cut off stands for fewer bytes than is told, wherever it is cut; and what more there is behind it stands for more, or is not whole.
func TestP5_2CutOffAnywhere(t *testing.T) {
	r := rand.New(rand.NewSource(53))
	l := append(someTexts(r, 400), apart(300), "", "a", "aaaaa", "abababababX", strings.Repeat("ab", 300))
	for _, s := range l {
		whole := packed(t, s)
		for at := range len(whole) {
			why := api.ErrLZ
			if at < 4 {
				why = api.ErrShort
			}
			checkUnpack(t, whole[:at], "", why)
		}
		for _, more := range []string{"\x00", "\x00a", "\x01ab", "\x80", "\x80\x00", "\x80\x00\x01", "\xff\x00\x01", "\x00\x00\x00\x00"} {
			checkUnpack(t, whole+more, "", api.ErrLZ)
		}
	}
}

func TestP5_2NotWhole(t *testing.T) {
	for _, c := range []struct {
		n      int
		orders string
	}{
		{0, "\x00"}, {1, "\x00"}, {1, "\x01a"}, {2, "\x01a"}, {127, "\x7f" + strings.Repeat("a", 127)}, {128, "\x7f" + strings.Repeat("a", 127)},
		{1, "\x00a\x00"}, {1, "\x00a\x80"}, {1, "\x00a\x80\x00"}, {5, "\x00a\x80"}, {5, "\x00a\x80\x00"}, {5, "\x00a\x80\x01"}, {132, "\x00a\xff\x00"},
	} {
		checkUnpack(t, headOf(c.n)+c.orders, "", api.ErrLZ)
	}
}

func TestP5_2Distances(t *testing.T) {
	for _, back := range []int{1, 2, 3, 4, 5, 127, 128, 129, 255, 256, 257, 300, 65534, 65535} {
		s := apart(back)
		run := runOf(s)
		for _, n := range []int{4, 5, 131} {
			want := s
			for i := range n {
				want += want[i : i+1]
			}
			checkUnpack(t, headOf(back+n)+run+matchOf(n, back), want, api.OK)
			checkUnpack(t, headOf(back+n)+run+matchOf(n, 0), "", api.ErrLZ)
			if back < 65535 {
				checkUnpack(t, headOf(back+n)+run+matchOf(n, back+1), "", api.ErrLZ)
			}
			checkUnpack(t, headOf(back-1+n)+runOf(s[1:])+matchOf(n, back), "", api.ErrLZ)
		}
	}
	checkUnpack(t, headOf(4)+matchOf(4, 1), "", api.ErrLZ) // nothing is ahead of the first byte
	checkUnpack(t, headOf(4)+matchOf(4, 0), "", api.ErrLZ)
	checkUnpack(t, headOf(4)+matchOf(4, 65535), "", api.ErrLZ)
	checkUnpack(t, headOf(5)+runOf("a")+matchOf(4, 256), "", api.ErrLZ) // both bytes of a distance count
	checkUnpack(t, headOf(5)+runOf("a")+matchOf(4, 257), "", api.ErrLZ)
	checkUnpack(t, headOf(5)+runOf("a")+matchOf(4, 65535), "", api.ErrLZ)
}

func TestP5_2OtherNumbers(t *testing.T) {
	for _, s := range []string{"a", "abc", "aaaaa", "abababababX", strings.Repeat("ab", 300), apart(300)} {
		orders := packed(t, s)[4:]
		for n := range len(s) + 300 {
			if n == len(s) {
				checkUnpack(t, headOf(n)+orders, s, api.OK)
			} else {
				checkUnpack(t, headOf(n)+orders, "", api.ErrLZ)
			}
		}
	}
	checkUnpack(t, headOf(1), "", api.ErrLZ)
	checkUnpack(t, headOf(0)+"\x00a", "", api.ErrLZ)
	checkUnpack(t, headOf(6)+"\x00a\x80\x00\x01\x80\x00\x01", "", api.ErrLZ) // the told number lies within a match
	checkUnpack(t, headOf(100)+"\x00a"+strings.Repeat("\xff\x00\x01", 1<<20), "", api.ErrLZ)
}

func TestP5_2UnpackIsNewMemory(t *testing.T) {
	b := []byte(headOf(8) + runOf("abcdefgh"))
	x, _ := Unpack(b)
	y, _ := Unpack(b)
	clear(b)
	if string(x) != "abcdefgh" {
		t.Errorf("an answer is what was handed in: %q", x)
	}
	clear(x)
	if string(y) != "abcdefgh" || len(strings.Trim(string(b), "\x00")) != 0 {
		t.Errorf("an answer's change is seen: %q, %q", y, b)
	}
}

func TestP5_2ByTheWords(t *testing.T) {
	check := func(s string) {
		want, why := unpackedOf(s)
		checkUnpack(t, s, want, why)
	}
	r := rand.New(rand.NewSource(54))
	for x := range 1 << 16 {
		check(headOf(x%9) + "\x01ab" + string([]byte{byte(x), byte(x >> 8), byte(x % 4)}))
	}
	orders := []string{"\x00a", "\x01bc", "\x80\x00\x01", "\x81\x00\x02", "\x80\x00\x03", "\x83\x00\x08", "\x80\x01\x00", "\x80\x00", "\x04abc", "\x80\x00\x00"}
	for range 20000 {
		s := "\x00x"
		for range r.Intn(6) {
			s += orders[r.Intn(3+r.Intn(len(orders)-2))]
		}
		for n := range 40 {
			check(headOf(n) + s)
		}
	}
	for range 200 {
		for _, s := range someTexts(r, 300) {
			b := []byte(packed(t, s))
			b[r.Intn(len(b))] ^= byte(1 + r.Intn(255))
			b[3] ^= byte(r.Intn(2) * r.Intn(256))
			check(string(b))
		}
	}
}

func TestP5_3ThereAndBack(t *testing.T) {
	r := rand.New(rand.NewSource(55))
	for _, n := range []int{1, 4, 5, 40, 129, 1000, 66000, 200000} {
		for range 1 + 2000/n {
			for _, s := range someTexts(r, n+1) {
				checkBack(t, s, packed(t, s))
			}
		}
	}
	for _, s := range []string{"", packed(t, apart(3000)), packed(t, strings.Repeat("log ", 3000))} { // packed ones are bytes too
		checkBack(t, s, packed(t, s))
	}
}

func TestP5_3OfTheMost(t *testing.T) {
	r := rand.New(rand.NewSource(56))
	long := kindsOf(r, 100000, 200)
	for _, s := range []string{
		kindsOf(r, api.MaxLZ, 256),
		kindsOf(r, api.MaxLZ/4, 2), // thousands of places have the same four bytes
		strings.Repeat(long, 1+api.MaxLZ/len(long))[:api.MaxLZ],
		strings.Repeat(long[:65535], 1+api.MaxLZ/65535)[:api.MaxLZ],
		strings.Repeat(long[:100], 1+api.MaxLZ/100)[:api.MaxLZ-1],
	} {
		checkBack(t, s, packed(t, s))
	}
}

func TestP5_4AllAlike(t *testing.T) {
	check := func(s string) {
		got, most := len(packed(t, s)), 9+(len(s)+130)/131*3
		if got > most || got > Bound(len(s)) {
			t.Fatalf("%d bytes that are all alike are packed to %d, more than %d or %d", len(s), got, most, Bound(len(s)))
		}
	}
	for n := range 1500 {
		check(strings.Repeat("\x00", n))
		check(strings.Repeat("\xff", n))
	}
	for _, n := range []int{65535, 65536, 65537, 131*1000 - 1, 131 * 1000, 131*1000 + 1, 131*1000 + 2, 131*1000 + 4, 131*1000 + 5, api.MaxLZ} {
		check(strings.Repeat("a", n))
	}
}

// checkBack, at all others, holds what is packed against Bound. Here are those that gain least: the shortest matches, behind runs of each length.
func TestP5_4Bounded(t *testing.T) {
	all := apart(4000)
	for n := range 300 {
		var b strings.Builder
		b.WriteString("abcd")
		for i := range 10 {
			b.WriteString(all[i*300:i*300+n] + "abcd")
		}
		s := b.String()
		checkBack(t, s, packed(t, s))
		s = strings.Repeat(all[:n]+"bcdefgh", 3)
		checkBack(t, s, packed(t, s))
	}
}
