package crc

import (
	"bytes"
	"hash/crc32"
	"math/rand"
	"slices"
	"testing"
)

// goesOn is the chapter's "a sum goes on by a byte", word by word.
func goesOn(sum uint32, c byte) uint32 {
	sum ^= uint32(c)
	for range 8 {
		lowest := sum % 2
		sum /= 2
		if lowest == 1 {
			sum ^= 3988292384
		}
	}
	return sum
}

// byWords is the chapter's "the sum of bytes", word by word.
func byWords(b []byte) uint32 {
	sum := uint32(1<<32 - 1)
	for _, c := range b {
		sum = goesOn(sum, c)
	}
	turned := uint32(0)
	for i := range 32 {
		if sum>>i&1 == 0 {
			turned |= 1 << i
		}
	}
	return turned
}

// someBytes are n bytes that a seed makes.
func someBytes(r *rand.Rand, n int) []byte {
	b := make([]byte, n)
	r.Read(b)
	return b
}

// someRows are rows of bytes of many lengths: none, few, those at powers of two, many, all alike.
func someRows() [][]byte {
	r := rand.New(rand.NewSource(3))
	rows := [][]byte{nil, {}, bytes.Repeat([]byte{0}, 300), bytes.Repeat([]byte{255}, 300)}
	for n := range 70 {
		rows = append(rows, someBytes(r, n))
	}
	for _, n := range []int{127, 128, 129, 255, 256, 257, 1000, 65535, 65536, 65537} {
		rows = append(rows, someBytes(r, n))
	}
	return rows
}

func TestP3_1SumOfKnownBytes(t *testing.T) {
	for _, c := range []struct {
		text string
		want uint32
	}{
		{"123456789", 3421780262},
		{"", 0},
		{"a", 0xe8b7be43},
		{"abc", 0x352441c2},
		{"\x00", 0xd202ef8d},
		{"\xff", 0xff000000},
		{"\x00\x00\x00\x00", 0x2144df1c},
		{"\xff\xff\xff\xff", 0xffffffff},
		{"The quick brown fox jumps over the lazy dog", 0x414fa339},
	} {
		if got := Sum([]byte(c.text)); got != c.want {
			t.Errorf("Sum(%q) = %x, want %x", c.text, got, c.want)
		}
	}
}

func TestP3_1SumOfNothing(t *testing.T) {
	for i, got := range []uint32{Sum(), Sum(nil), Sum([]byte{}), Sum(nil, nil), Sum(nil, []byte{}, nil), Sum([][]byte{}...)} {
		if got != 0 {
			t.Errorf("%d: %x, want 0", i, got)
		}
	}
}

func TestP3_1SumByTheWords(t *testing.T) {
	for one := range 256 {
		for two := range 256 {
			b := []byte{byte(one), byte(two)}
			if got, want := Sum(b), byWords(b); got != want {
				t.Fatalf("Sum(%v) = %x, want %x", b, got, want)
			}
		}
		if b := []byte{byte(one)}; Sum(b) != byWords(b) {
			t.Errorf("Sum(%v) = %x, want %x", b, Sum(b), byWords(b))
		}
	}
	for _, b := range someRows() {
		if got, want := Sum(b), byWords(b); got != want {
			t.Errorf("Sum of %d bytes = %x, want %x", len(b), got, want)
		}
	}
}

func TestP3_1SumIsThatOfTheLibrary(t *testing.T) {
	b := someBytes(rand.New(rand.NewSource(31)), 1<<20)
	if got, want := Sum(b), crc32.ChecksumIEEE(b); got != want {
		t.Errorf("%x, want %x", got, want)
	}
}

func TestP3_1SumOfParts(t *testing.T) {
	for _, parts := range [][]string{
		{"1234", "56789"},
		{"123456789", ""},
		{"", "123456789"},
		{"", "1", "", "", "2345678", "9", ""},
		{"1", "2", "3", "4", "5", "6", "7", "8", "9"},
	} {
		var rows [][]byte
		for _, p := range parts {
			rows = append(rows, []byte(p))
		}
		if got := Sum(rows...); got != 3421780262 {
			t.Errorf("Sum of %q = %d", parts, got)
		}
	}
	if Sum([]byte("12"), []byte("3")) == Sum([]byte("3"), []byte("12")) {
		t.Error("parts come in their order")
	}
}

func TestP3_1Next(t *testing.T) {
	if got := Next(0, []byte("123456789")); got != 3421780262 {
		t.Errorf("behind no bytes: %d", got)
	}
	r := rand.New(rand.NewSource(32))
	for n := range 100 {
		head, tail := someBytes(r, r.Intn(20)), someBytes(r, n)
		if got, want := Next(byWords(head), tail), byWords(slices.Concat(head, tail)); got != want {
			t.Errorf("%v, %v: %x, want %x", head, tail, got, want)
		}
	}
}

func TestP3_1NextByNothing(t *testing.T) {
	for _, sum := range []uint32{0, 1, 255, 256, 1 << 31, 1<<32 - 1, 3421780262} {
		if Next(sum, nil) != sum || Next(sum, []byte{}) != sum {
			t.Errorf("Next of %x by no bytes: %x", sum, Next(sum, nil))
		}
	}
}

// Each number is the sum of some four bytes, so Next of any number is that of bytes too.
func TestP3_1NextOfAnySum(t *testing.T) {
	r := rand.New(rand.NewSource(33))
	for _, sum := range []uint32{1<<32 - 1, 1, 1 << 31, r.Uint32(), r.Uint32(), r.Uint32()} {
		b := someBytes(r, 9)
		want := ^sum
		for _, c := range b {
			want = goesOn(want, c)
		}
		if got := Next(sum, b); got != ^want {
			t.Errorf("Next(%x, %v) = %x, want %x", sum, b, got, ^want)
		}
	}
}

func TestP3_1NothingHandedInIsChanged(t *testing.T) {
	b := []byte("123456789")
	parts := [][]byte{b[:4], b[4:]}
	Sum(parts...)
	Next(7, b)
	New().Write(b)
	if string(b) != "123456789" || string(parts[0]) != "1234" || string(parts[1]) != "56789" {
		t.Error(b, parts)
	}
}

// holds says what a digest must tell: the sum of all bytes, and how many they are; asking changes nothing.
func holds(t *testing.T, what string, d *Digest, all []byte) {
	t.Helper()
	for range 2 {
		if d.Sum() != byWords(all) || d.Len() != len(all) {
			t.Errorf("%s: %x of %d bytes, want %x of %d", what, d.Sum(), d.Len(), byWords(all), len(all))
		}
	}
}

func TestP3_2DigestByTheWords(t *testing.T) {
	r := rand.New(rand.NewSource(34))
	for what, d := range map[string]*Digest{"New's": New(), "a zero one": {}, "new's": new(Digest)} {
		holds(t, what, d, nil)
		var all []byte
		for step := range 400 {
			if step%37 == 36 {
				d.Reset()
				all = nil
				holds(t, what, d, nil)
				continue
			}
			b := someBytes(r, r.Intn(30))
			if n := d.Write(b); n != len(b) {
				t.Errorf("%s: Write of %d bytes is %d", what, len(b), n)
			}
			all = append(all, b...)
			holds(t, what, d, all)
		}
	}
}

func TestP3_2WriteOfNothing(t *testing.T) {
	d := New()
	for _, b := range [][]byte{nil, {}} {
		if n := d.Write(b); n != 0 {
			t.Error(n)
		}
	}
	holds(t, "no bytes", d, nil)
	if n := d.Write([]byte("123456789")); n != 9 {
		t.Error(n)
	}
	d.Write(nil)
	if d.Sum() != 3421780262 || d.Len() != 9 {
		t.Error(d.Sum(), d.Len())
	}
}

func TestP3_2WriteTellsItsOwnBytes(t *testing.T) {
	d := New()
	d.Write([]byte("12345"))
	if n := d.Write([]byte("6789")); n != 4 || d.Len() != 9 {
		t.Error(n, d.Len())
	}
}

func TestP3_2Reset(t *testing.T) {
	d := New()
	d.Reset()
	holds(t, "New's, reset", d, nil)
	d.Write([]byte("a"))
	d.Reset()
	d.Reset()
	holds(t, "reset twice", d, nil)
	d.Write([]byte("123456789"))
	if d.Sum() != 3421780262 || d.Len() != 9 {
		t.Error(d.Sum(), d.Len())
	}
}

func TestP3_2NilDigest(t *testing.T) {
	var d *Digest
	if n := d.Write([]byte("abc")); n != 0 {
		t.Error(n)
	}
	d.Reset()
	if d.Sum() != 0 || d.Len() != 0 || d != nil {
		t.Error(d.Sum(), d.Len())
	}
}

func TestP3_2DigestsAreApart(t *testing.T) {
	one, two := New(), New()
	if one == nil || two == nil || one == two {
		t.Fatal("each New is one of its own")
	}
	b := []byte("123456789")
	one.Write(b)
	holds(t, "the other one", two, nil)
	other := *one // what is copied goes on by itself
	other.Write([]byte("more"))
	b[0] = 'x' // what was handed in is not kept
	holds(t, "the one", one, []byte("123456789"))
	holds(t, "the copied one", &other, []byte("123456789more"))
}

func TestP3_3AllCutsInThree(t *testing.T) {
	b := someBytes(rand.New(rand.NewSource(35)), 40)
	want := Sum(b)
	for i := range len(b) + 1 {
		for k := i; k <= len(b); k++ {
			d := New()
			d.Write(b[:i])
			d.Write(b[i:k])
			d.Write(b[k:])
			for way, got := range []uint32{
				Sum(b[:i], b[i:k], b[k:]),
				Next(Next(Sum(b[:i]), b[i:k]), b[k:]),
				Next(Sum(b[:i], b[i:k]), b[k:]),
				d.Sum(),
			} {
				if got != want {
					t.Fatalf("cut at %d and %d, way %d: %x, want %x", i, k, way, got, want)
				}
			}
		}
	}
}

func TestP3_3ByteByByte(t *testing.T) {
	for _, b := range someRows() {
		if len(b) > 2000 {
			continue
		}
		sum, d, parts := Sum(), New(), [][]byte{}
		for i := range b {
			sum = Next(sum, b[i:i+1])
			d.Write(b[i : i+1])
			parts = append(parts, b[i:i+1])
		}
		if want := byWords(b); sum != want || d.Sum() != want || d.Len() != len(b) || Sum(parts...) != want {
			t.Errorf("%d bytes: %x, %x, %x, want %x", len(b), sum, d.Sum(), Sum(parts...), want)
		}
	}
}

func TestP3_4EachTurnWithinTwoBytes(t *testing.T) {
	b := []byte("a log forgets nothing")
	was := Sum(b)
	for at := range len(b) - 1 {
		for turn := 1; turn < 1<<16; turn++ {
			c := slices.Clone(b)
			c[at] ^= byte(turn)
			c[at+1] ^= byte(turn >> 8)
			if Sum(c) == was {
				t.Fatalf("the sum stays when %x is turned at %d", turn, at)
			}
		}
	}
}

func TestP3_4TurnsWithinFourBytes(t *testing.T) {
	r := rand.New(rand.NewSource(36))
	turns := []uint32{1, 1 << 31, 1<<31 | 1, 1<<32 - 1, 0xedb88320, 0x04c11db7, 0xdb710641, 0x80808080, 0x01010101}
	for range 1000 {
		turns = append(turns, r.Uint32()|1<<r.Intn(32))
	}
	for _, n := range []int{4, 5, 64, 1000} {
		b := someBytes(r, n)
		was := Sum(b)
		for _, turn := range turns {
			at := r.Intn(n - 3)
			c := slices.Clone(b)
			for i := range 4 {
				c[at+i] ^= byte(turn >> (8 * i))
			}
			if Sum(c) == was {
				t.Errorf("%d bytes: the sum stays when %x is turned at %d", n, turn, at)
			}
		}
	}
}
