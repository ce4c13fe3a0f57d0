package bloom

import (
	"fmt"
	"hash/fnv"
	"math"
	"math/rand"
	"slices"
	"strings"
	"testing"

	"loggia/api"
)

// someTexts are texts at the edges: none, all bytes, terms, long ones, and random ones.
func someTexts() []string {
	all := make([]byte, 256)
	for i := range all {
		all[i] = byte(i)
	}
	l := []string{"", "\x00", "\x00\x00", "a", "b", "A", "ab", "ba", "aa", "msg:ok", "msg:error", "é", "\xff", "\x80", strings.Repeat("z", api.MaxTerm), strings.Repeat("\x00", 5000), strings.Repeat("log ", 5000), string(all)}
	for _, c := range all {
		l = append(l, string([]byte{c}))
	}
	slices.Reverse(all)
	l = append(l, string(all))
	r := rand.New(rand.NewSource(9))
	for range 300 {
		l = append(l, randomText(r, 40))
	}
	return l
}

// terms are n terms, apart.
func terms(n int) []string {
	var l []string
	for i := range n {
		l = append(l, fmt.Sprintf("msg:w%d", i))
	}
	return l
}

// must is a filter of an answer without an error.
func must(t *testing.T, f *Filter, e api.Errno) *Filter {
	t.Helper()
	if e != api.OK || f == nil {
		t.Fatalf("no filter: %d", e)
	}
	return f
}

// made is New's filter for n terms.
func made(t *testing.T, n int) *Filter {
	t.Helper()
	f, e := New(n)
	return must(t, f, e)
}

// read is Read's filter of bytes.
func read(t *testing.T, b string) *Filter {
	t.Helper()
	f, e := Read([]byte(b))
	return must(t, f, e)
}

// holds says what a filter must tell; asking changes nothing.
func holds(t *testing.T, what string, f *Filter, p plainFilter) {
	t.Helper()
	for range 2 {
		if f.Bits() != p.m || f.Count() != len(p.there) || string(f.Bytes()) != p.bytes() {
			t.Fatalf("%s: %d of %d bits, want %d of %d; bytes %.40x, want %.40x", what, f.Count(), f.Bits(), len(p.there), p.m, f.Bytes(), p.bytes())
		}
	}
}

func TestP9_1NewSizes(t *testing.T) {
	for _, c := range []struct{ n, bits int }{
		{0, 64}, {1, 64}, {5, 64}, {6, 64}, {7, 72}, {8, 80}, {9, 96}, {10, 104}, {11, 112}, {12, 120}, {13, 136}, {100, 1000}, {101, 1016}, {1000, 10000},
		{104849, 1048496}, {104850, 1048504}, {104857, 1048576}, {104858, 1048576}, {131072, 1048576}, {api.MaxTerms - 1, 1048576}, {api.MaxTerms, 1048576},
	} {
		holds(t, fmt.Sprintf("New(%d)", c.n), made(t, c.n), plainFilter{m: c.bits})
	}
	for n := range 3000 {
		if got, want := made(t, n).Bits(), plainSize(n); got != want {
			t.Fatalf("New(%d): %d bits, want %d", n, got, want)
		}
	}
	for n := 3000; n <= api.MaxTerms; n += 97 {
		if got, want := made(t, n).Bits(), plainSize(n); got != want {
			t.Fatalf("New(%d): %d bits, want %d", n, got, want)
		}
	}
}

func TestP9_1NewIsWithoutAnyBit(t *testing.T) {
	for _, n := range []int{0, 1, 6, 7, 100, 104857, api.MaxTerms} {
		f := made(t, n)
		if f.Count() != 0 || len(f.Bytes())*8 != f.Bits() || slices.ContainsFunc(f.Bytes(), func(c byte) bool { return c != 0 }) {
			t.Errorf("New(%d): %d bits are there", n, f.Count())
		}
		for _, s := range someTexts() {
			if f.May(s) {
				t.Errorf("New(%d): it lets %.40q be", n, s)
			}
		}
	}
}

func TestP9_1NewRefused(t *testing.T) {
	for _, n := range []int{-1, -2, -64, math.MinInt, math.MinInt + 1, api.MaxTerms + 1, api.MaxTerms + 2, 1 << 20, 1 << 32, 1 << 61, math.MaxInt/10 + 1, math.MaxInt} {
		if f, e := New(n); e != api.ErrBloom || f != nil {
			t.Errorf("New(%d): %v, %d", n, f, e)
		}
	}
	if api.ErrBloom != 90 {
		t.Error(api.ErrBloom)
	}
}

func TestP9_1NewsAreApart(t *testing.T) {
	one, two := made(t, 3), made(t, 3)
	if one == two || one.Add("a") != 4 || two.Count() != 0 || two.May("a") {
		t.Error("a filter changes with another one")
	}
}

func TestP9_1Of(t *testing.T) {
	texts := someTexts()
	for _, l := range [][]string{nil, {}, {""}, {"a"}, {"a", "a"}, {"a", "b", "a"}, slices.Repeat([]string{"a"}, 6), slices.Repeat([]string{"a"}, 7), terms(6), terms(7), terms(8), terms(100), texts} {
		given := slices.Clone(l)
		p := plainNew(len(l))
		p.add(l...)
		f := Of(l...)
		holds(t, fmt.Sprintf("Of(%.40q)", l), f, p)
		for _, s := range append(texts, l...) {
			if f.May(s) != p.may(s) {
				t.Fatalf("Of(%.40q): May of %.40q: %v", l, s, f.May(s))
			}
		}
		if !slices.Equal(l, given) {
			t.Errorf("Of(%.40q) changes it", given)
		}
	}
}

func TestP9_1OfNone(t *testing.T) {
	for _, f := range []*Filter{Of(), Of(nil...), Of([]string{}...)} {
		if f == nil || f.Bits() != 64 || f.Count() != 0 || f.May("") || f.May("a") || f.Add("a") != 4 || !f.May("a") {
			t.Error("the filter of no terms")
		}
	}
}

func TestP9_1OfAsManyAsThereMayBe(t *testing.T) {
	all := terms(api.MaxTerms + 300)
	for _, n := range []int{104857, 104858, api.MaxTerms - 1, api.MaxTerms, api.MaxTerms + 1, api.MaxTerms + 300} {
		f := Of(all[:n]...)
		if f == nil || f.Bits() != 1048576 {
			t.Fatalf("Of %d terms: %v", n, f)
		}
		same := made(t, api.MaxTerms)
		if same.Add(all[:n]...) != f.Count() || !slices.Equal(same.Bytes(), f.Bytes()) {
			t.Errorf("Of %d terms: not all of them, or more", n)
		}
		for _, s := range all[:n] {
			if !f.May(s) {
				t.Fatalf("Of %d terms: %q is none of them", n, s)
			}
		}
	}
	if f := Of(make([]string, api.MaxTerms+1)...); f.Bits() != 1048576 || f.Count() != 4 {
		t.Errorf("one text, many times: %d of %d bits", f.Count(), f.Bits())
	}
}

func TestP9_1AddOfKnownTexts(t *testing.T) {
	for _, c := range []struct {
		n    int
		text string
		bits []int
	}{
		{0, "a", []int{12, 25, 38, 51}},
		{7, "a", []int{28, 17, 6, 67}},
		{0, "", []int{37, 10, 47, 20}},
		{7, "", []int{61, 66, 71, 4}},
		{api.MaxTerms, "a", []int{126092, 379097, 632102, 885107}},
		{api.MaxTerms, "msg:error", []int{733582, 823503, 913424, 1003345}},
	} {
		f := made(t, c.n)
		if got := f.Add(c.text); got != 4 || f.Count() != 4 || !f.May(c.text) {
			t.Errorf("New(%d), Add(%q): %d, then %d", c.n, c.text, got, f.Count())
		}
		b := make([]byte, f.Bits()/8)
		for _, k := range c.bits {
			b[k/8] |= 1 << (k % 8)
		}
		if got := f.Bytes(); !slices.Equal(got, b) {
			t.Errorf("New(%d), Add(%q): %.80x, want %.80x", c.n, c.text, got, b)
		}
	}
}

func TestP9_1AddByTheWords(t *testing.T) {
	for _, n := range []int{0, 7, 13, 100, 1000, 104857, api.MaxTerms} {
		for _, s := range someTexts() {
			f, p := made(t, n), plainNew(n)
			if got, want := f.Add(s), p.add(s); got != want || f.Count() != len(p.there) || !f.May(s) {
				t.Fatalf("New(%d), Add(%.40q): %d, then %d, want %d", n, s, got, f.Count(), want)
			}
			b := f.Bytes()
			for k := range p.there {
				if b[k/8]>>(k%8)&1 == 0 {
					t.Fatalf("New(%d), Add(%.40q): bit %d is not there", n, s, k)
				}
			}
		}
	}
}

// The library's sum of this kind is another way to a text's number.
func TestP9_1NumberIsThatOfTheLibrary(t *testing.T) {
	for _, s := range someTexts() {
		h := fnv.New64a()
		h.Write([]byte(s))
		first, second := h.Sum64()%(1<<32), h.Sum64()/(1<<32)
		if second%2 == 0 {
			second++
		}
		f := made(t, api.MaxTerms)
		f.Add(s)
		b := f.Bytes()
		for i := range uint64(4) {
			if k := (first + i*second) % (1 << 20); b[k/8]>>(k%8)&1 == 0 {
				t.Fatalf("Add(%.40q): bit %d is not there", s, k)
			}
		}
	}
}

func TestP9_1AddOfNone(t *testing.T) {
	f := Of("a")
	was := f.Bytes()
	for _, l := range [][]string{nil, {}} {
		if n := f.Add(l...); n != 0 {
			t.Error(n)
		}
	}
	if f.Add() != 0 || !slices.Equal(f.Bytes(), was) || made(t, 0).Add() != 0 {
		t.Error("no terms have bits")
	}
}

func TestP9_1AddAgain(t *testing.T) {
	f := made(t, 100)
	if n := f.Add("a", "a"); n != 4 {
		t.Errorf("twice in one call: %d", n)
	}
	was := f.Bytes()
	if f.Add("a") != 0 || f.Add("a", "a", "a") != 0 || f.Count() != 4 || !slices.Equal(f.Bytes(), was) {
		t.Error("added before")
	}
	if n := f.Add("a", "b", "a", "b"); n != 4 || f.Count() != 8 { // their bits are apart
		t.Errorf("one that was, one that was not: %d", n)
	}
	if f.Add("") != 4 || f.Add("") != 0 || f.Count() != 12 {
		t.Error("the empty text")
	}
}

func TestP9_1AddCountsBitsThatTermsShare(t *testing.T) {
	f, p := made(t, 0), plainNew(0)
	shared := 0
	for _, s := range terms(60) {
		n := f.Add(s)
		if want := p.add(s); n != want {
			t.Fatalf("Add(%q): %d, want %d", s, n, want)
		}
		if n > 0 && n < 4 {
			shared++
		}
		holds(t, s, f, p)
	}
	if shared < 10 {
		t.Errorf("%d terms share bits with others", shared)
	}
	one := made(t, 0)
	if n := one.Add(terms(60)...); n != f.Count() || !slices.Equal(one.Bytes(), f.Bytes()) {
		t.Errorf("at once: %d, one by one %d", n, f.Count())
	}
}

// As a filter's bits are a multiple of 8, and the second is odd, a text's four bits are apart in each.
func TestP9_1TextsHaveFourBitsInEachFilter(t *testing.T) {
	texts := someTexts()
	for size := 8; size < 700; size++ {
		for _, s := range texts[:100] {
			if f := read(t, strings.Repeat("\x00", size)); f.Add(s) != 4 || f.Count() != 4 {
				t.Fatalf("%d bytes, %.40q: %d bits", size, s, f.Count())
			}
		}
	}
}

func TestP9_1May(t *testing.T) {
	r := rand.New(rand.NewSource(91))
	yes, no, wrong := 0, 0, 0
	for _, n := range []int{0, 5, 7, 20, 100, 1000} {
		for range 20 {
			f, p := made(t, n), plainNew(n)
			in := map[string]bool{}
			for range 1 + r.Intn(n+10) {
				s := randomText(r, 12)
				in[s] = true
				f.Add(s)
				p.add(s)
			}
			for s := range in {
				if !f.May(s) {
					t.Fatalf("New(%d): %q was added", n, s)
				}
			}
			for range 100 {
				s := randomText(r, 12)
				if f.May(s) != p.may(s) {
					t.Fatalf("New(%d): May(%q): %v", n, s, f.May(s))
				}
				switch {
				case !f.May(s):
					no++
				case in[s]:
					yes++
				default:
					wrong++
				}
			}
			holds(t, "asked", f, p)
		}
	}
	if no < 1000 || wrong < 100 || yes < 10 {
		t.Errorf("%d surely not, %d there, %d wrongly", no, yes, wrong)
	}
}

// May asks for all four bits: where one of them is not there, whichever it is, the answer is no.
func TestP9_1MayAsksForEachBit(t *testing.T) {
	for _, m := range []int{64, 72, 1 << 20} {
		for _, s := range someTexts()[:40] {
			for i, k := range plainBits(s, m) {
				b := []byte(strings.Repeat("\xff", m/8))
				b[k/8] -= 1 << (k % 8)
				if read(t, string(b)).May(s) {
					t.Fatalf("%d bits, %.40q: let be without its bit %d", m, s, i)
				}
			}
		}
	}
}

func TestP9_1MayOfATermWhoseBitsAreThere(t *testing.T) {
	for _, m := range []int{64, 72, 1 << 20} {
		for _, s := range someTexts()[:40] {
			b := make([]byte, m/8)
			for _, k := range plainBits(s, m) {
				b[k/8] |= 1 << (k % 8)
			}
			f := read(t, string(b))
			if !f.May(s) || f.Add(s) != 0 {
				t.Fatalf("%d bits, %.40q: all of its bits are there", m, s)
			}
		}
	}
}

func TestP9_1NothingHandedInIsChanged(t *testing.T) {
	l := []string{"b", "a", "", "b"}
	Of(l...)
	f := made(t, 4)
	f.Add(l...)
	was := f.Bytes()
	if !slices.Equal(l, []string{"b", "a", "", "b"}) {
		t.Errorf("%q", l)
	}
	l[0] = "other"
	if !slices.Equal(f.Bytes(), was) || !f.May("b") {
		t.Error("what was handed in is kept")
	}
}

func TestP9_2Bits(t *testing.T) {
	for _, n := range []int{8, 9, 10, 100, 131071, 131072} {
		f := read(t, strings.Repeat("\x01", n))
		if f.Bits() != 8*n || f.Count() != n || len(f.Bytes()) != n {
			t.Errorf("%d bytes: %d of %d bits, %d bytes", n, f.Count(), f.Bits(), len(f.Bytes()))
		}
		f.Add(terms(50)...)
		if f.Bits() != 8*n || len(f.Bytes()) != n {
			t.Errorf("%d bytes: %d bits, %d bytes, behind Add", n, f.Bits(), len(f.Bytes()))
		}
	}
}

func TestP9_2CountOfEachByte(t *testing.T) {
	for c := range 256 {
		want := 0
		for k := range 8 {
			want += c >> k & 1
		}
		for at := range 9 {
			b := make([]byte, 9)
			b[at] = byte(c)
			if f := read(t, string(b)); f.Count() != want || !slices.Equal(f.Bytes(), b) {
				t.Fatalf("byte %d is %d: %d bits", at, c, f.Count())
			}
		}
	}
	if f := made(t, 1000); f.Add(terms(1000)...) != f.Count() || f.Count() < 3000 || f.Count() > 4000 {
		t.Errorf("1000 terms: %d bits", f.Count())
	}
}

func TestP9_2BytesAreNewMemory(t *testing.T) {
	f := Of("a", "b")
	was := f.Bytes()
	b := f.Bytes()
	for i := range b {
		b[i] ^= 255
	}
	if got := f.Bytes(); !slices.Equal(got, was) || f.Count() != 7 || !f.May("a") || !f.May("b") { // they share a bit
		t.Errorf("what is changed in the bytes changes the filter: %x", got)
	}
	one, two := f.Bytes(), f.Bytes()
	one[0] ^= 255
	if !slices.Equal(two, was) {
		t.Error("two answers share memory")
	}
	kept := f.Bytes()
	f.Add(terms(50)...)
	if !slices.Equal(kept, was) {
		t.Error("Add changes bytes that were told")
	}
}

func TestP9_2ReadRefused(t *testing.T) {
	for _, n := range []int{0, 1, 2, 4, 6, 7, 131073, 131074, 131080, 262144, 1 << 20} {
		for _, c := range []string{"\x00", "\xff", "a"} {
			if f, e := Read([]byte(strings.Repeat(c, n))); e != api.ErrBloom || f != nil {
				t.Errorf("%d bytes: %v, %d", n, f, e)
			}
		}
	}
	if f, e := Read(nil); e != api.ErrBloom || f != nil {
		t.Errorf("no bytes: %v, %d", f, e)
	}
	if f, e := Read(make([]byte, 7, 100)); e != api.ErrBloom || f != nil {
		t.Errorf("seven bytes, with room for more: %v, %d", f, e)
	}
}

func TestP9_2ReadOfNoneAndOfAllBits(t *testing.T) {
	for _, n := range []int{8, 9, 131071, 131072} {
		none, all := read(t, strings.Repeat("\x00", n)), read(t, strings.Repeat("\xff", n))
		if none.Bits() != 8*n || none.Count() != 0 || all.Bits() != 8*n || all.Count() != 8*n {
			t.Fatalf("%d bytes: %d and %d of %d and %d bits", n, none.Count(), all.Count(), none.Bits(), all.Bits())
		}
		for _, s := range someTexts() {
			if none.May(s) || !all.May(s) {
				t.Fatalf("%d bytes: May of %.40q: %v, %v", n, s, none.May(s), all.May(s))
			}
		}
		if all.Add(someTexts()...) != 0 || all.Count() != 8*n || none.Add("a") != 4 {
			t.Errorf("%d bytes: Add", n)
		}
	}
}

func TestP9_2ReadByTheWords(t *testing.T) {
	r := rand.New(rand.NewSource(92))
	for i := range 600 {
		b := randomBytes(r, 8+r.Intn(1+i))
		f, p := read(t, b), plainRead(b)
		holds(t, fmt.Sprintf("%.40x", b), f, p)
		for range 20 {
			if s := randomText(r, 9); f.May(s) != p.may(s) {
				t.Fatalf("%x: May(%q): %v", b, s, f.May(s))
			}
		}
		l := []string{randomText(r, 3), randomText(r, 30)}
		if n, want := f.Add(l...), p.add(l...); n != want {
			t.Fatalf("%x: Add(%q): %d, want %d", b, l, n, want)
		}
		holds(t, fmt.Sprintf("%.40x, with %q", b, l), f, p)
	}
}

func TestP9_2ReadKeepsNothing(t *testing.T) {
	given := []byte(randomBytes(rand.New(rand.NewSource(93)), 100))
	b := slices.Clone(given)
	f, e := Read(b)
	must(t, f, e)
	if f.Add(terms(100)...) == 0 || !slices.Equal(b, given) {
		t.Error("what was handed in is changed")
	}
	was := f.Bytes()
	clear(b)
	if !slices.Equal(f.Bytes(), was) {
		t.Error("what is changed behind the call changes the filter")
	}
	again, e := Read(given)
	must(t, again, e)
	other, e := Read(given)
	must(t, other, e)
	again.Add(terms(100)...)
	if !slices.Equal(other.Bytes(), given) {
		t.Error("two filters of the same bytes share memory")
	}
}

func TestP9_3(t *testing.T) {
	r := rand.New(rand.NewSource(94))
	for _, n := range []int{0, 6, 7, 50, 3000} {
		f := made(t, n)
		var in []string
		for range 300 {
			l := []string{randomText(r, 2), randomText(r, 70), strings.Join(in[:min(3, len(in))], " ")}
			f.Add(l...)
			in = append(in, l...)
			for _, s := range in {
				if !f.May(s) {
					t.Fatalf("New(%d): %.40q was added", n, s)
				}
			}
			if r.Intn(9) == 0 {
				f = read(t, string(f.Bytes()))
			}
		}
	}
}

func TestP9_3Of(t *testing.T) {
	for _, l := range [][]string{someTexts(), terms(1), terms(7), terms(20000)} {
		f := Of(l...)
		for range 2 {
			for _, s := range l {
				if !f.May(s) {
					t.Fatalf("of %d terms, %.40q", len(l), s)
				}
			}
			f.Add(terms(30000)...)
		}
	}
}

func TestP9_4(t *testing.T) {
	r := rand.New(rand.NewSource(95))
	for _, n := range []int{0, 1, 6, 7, 13, 100, 104857, api.MaxTerms} {
		f := made(t, n)
		for range 10 {
			b := f.Bytes()
			g := read(t, string(b))
			if g.Bits() != f.Bits() || g.Count() != f.Count() || !slices.Equal(g.Bytes(), b) {
				t.Fatalf("New(%d): %d of %d bits, read %d of %d", n, f.Count(), f.Bits(), g.Count(), g.Bits())
			}
			for range 50 {
				if s := randomText(r, 4); f.May(s) != g.May(s) {
					t.Fatalf("New(%d): May(%q): %v, read %v", n, s, f.May(s), g.May(s))
				}
			}
			l := []string{randomText(r, 4), randomText(r, 4), randomText(r, 4)}
			if f.Add(l...) != g.Add(l...) || !slices.Equal(f.Bytes(), g.Bytes()) {
				t.Fatalf("New(%d): Add(%q) of the filter and of what is read", n, l)
			}
		}
	}
}

func TestP9_4BytesOfWhatIsRead(t *testing.T) {
	r := rand.New(rand.NewSource(96))
	for _, n := range []int{8, 9, 10, 63, 64, 65, 1000, 131071, 131072} {
		for range 20 {
			b := randomBytes(r, n)
			if got := string(read(t, b).Bytes()); got != b {
				t.Fatalf("%.40x: %.40x", b, got)
			}
		}
	}
}

// What nobody made tells nothing, and goes on so: of no term that it is surely not there.
func TestFiltersThatNoCallMade(t *testing.T) {
	for what, f := range map[string]*Filter{"nil": nil, "a zero one": {}, "new's": new(Filter)} {
		for range 2 {
			if f.Bits() != 0 || f.Count() != 0 || f.Bytes() != nil {
				t.Errorf("%s: %d of %d bits, %x", what, f.Count(), f.Bits(), f.Bytes())
			}
			for _, s := range someTexts() {
				if !f.May(s) {
					t.Errorf("%s: May(%.40q) is false", what, s)
				}
			}
			if f.Add() != 0 || f.Add("a") != 0 || f.Add(terms(20)...) != 0 {
				t.Errorf("%s: Add", what)
			}
		}
	}
}
