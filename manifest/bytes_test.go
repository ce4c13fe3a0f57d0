package manifest

import (
	"bytes"
	"math"
	"math/rand"
	"slices"
	"strings"
	"testing"

	"loggia/api"
)

// decoded holds what Decode answers against the model, and answers it.
func decoded(t *testing.T, s string) (api.Manifest, api.Errno) {
	t.Helper()
	b := []byte(s)
	m, e := Decode(b)
	want, mayBe := plainDecode(s)
	if !plainSame(m, want) || e != api.OK && e != api.ErrManifest || (e == api.OK) != mayBe {
		t.Fatalf("Decode of %d bytes, %.200q: %s, %d, not %s, %v", len(s), s, short(m), e, short(want), mayBe)
	}
	if string(b) != s {
		t.Fatal("Decode changes what is handed in")
	}
	return m, e
}

// refused holds that bytes are no manifest's.
func refused(t *testing.T, s string) {
	t.Helper()
	if m, e := decoded(t, s); e != api.ErrManifest {
		t.Fatalf("Decode of %d bytes, %.200q: %s", len(s), s, short(m))
	}
}

// encoded holds what Encode answers against the model, and answers it.
func encoded(t *testing.T, m api.Manifest) string {
	t.Helper()
	was := copyOf(m)
	b, e := Encode(m)
	if want := plainCheck(m); e != want {
		t.Fatalf("Encode of %s: %d, not %d", short(m), e, want)
	}
	if !plainSame(m, was) {
		t.Fatal("Encode changes what is handed in")
	}
	if e != api.OK && len(b) > 0 || e == api.OK && string(b) != plainBytes(m) {
		t.Fatalf("Encode of %s: %.200x", short(m), b)
	}
	return string(b)
}

// What stands here was written down, not made.
func TestP16_2Known(t *testing.T) {
	for _, c := range []struct {
		m api.Manifest
		b []byte
	}{
		{New(), []byte{'L', 'G', 'M', '1', 255, 255, 255, 255, 255, 255, 255, 255, 255, 1, 0, 2, 2, 255, 255, 255, 255, 255, 255, 255, 255, 255, 1, 0}},
		{
			api.Manifest{Parts: []api.Part{{ID: 2, State: api.Sealed, Low: -5, High: 9, First: 1, Last: 4, N: 4}, {ID: 300, State: api.Frozen, Low: 9, High: 9, First: 6, Last: 6, N: 1}}, Floor: -7, Done: 64, Log: 3, Next: 301, Now: 12},
			[]byte{'L', 'G', 'M', '1', 13, 128, 1, 6, 218, 4, 24, 2, 4, 4, 9, 18, 2, 8, 216, 4, 6, 18, 18, 12, 12},
		},
	} {
		sum := ^uint32(0)
		for _, x := range c.b {
			sum ^= uint32(x)
			for range 8 {
				sum = sum>>1 ^ sum&1*0xEDB88320
			}
		}
		sum = ^sum
		b := append(c.b, byte(sum%256), byte(sum/256%256), byte(sum/65536%256), byte(sum/16777216))
		if got := encoded(t, c.m); got != string(b) {
			t.Errorf("%s: %x, not %x", short(c.m), got, b)
		}
		m, e := Decode(b)
		must(t, e, api.OK)
		same(t, m, c.m)
	}
}

func TestP16_2Encode(t *testing.T) {
	r := rand.New(rand.NewSource(3))
	for _, m := range []api.Manifest{{}, New(), known(), full(1), full(127), full(128), full(511), full(512), full(513), {Log: 1, Next: 1, Parts: []api.Part{}}} {
		encoded(t, m)
	}
	for range 300 {
		m := random(r, 5)
		if encoded(t, m) == "" {
			t.Fatal("a manifest that may be")
		}
		for _, k := range changed(m)[:60] {
			encoded(t, k)
		}
	}
}

func TestP16_7ThereAndBack(t *testing.T) {
	r := rand.New(rand.NewSource(4))
	all := []api.Manifest{New(), known(), full(1), full(127), full(128), full(512), {Floor: math.MaxInt, Done: 1 << 40, Log: 99999999, Next: 99999999, Now: math.MinInt}}
	for range 2000 {
		all = append(all, random(r, 1<<r.Intn(7)))
	}
	for _, m := range all {
		s := encoded(t, m)
		k, e := decoded(t, s)
		must(t, e, api.OK)
		same(t, k, m)
		if again := encoded(t, k); again != s || !Same(k, m) {
			t.Fatal("other bytes")
		}
	}
}

// Bytes as a manifest's would be, of one that may not be.
func TestP16_2DecodeOfWhatMayNotBe(t *testing.T) {
	r := rand.New(rand.NewSource(5))
	for range 150 {
		m := random(r, 4)
		for _, k := range changed(m) {
			decoded(t, plainBytes(k))
		}
	}
	for _, n := range []int{513, 514, 1024, 1 << 14} {
		refused(t, plainBytes(full(n)))
	}
	refused(t, plainBytes(api.Manifest{}))
}

// Numbers that would go round: N is worked out, and is not what is looked at.
func TestP16_2DecodeGoingRound(t *testing.T) {
	for _, l := range [][2]int{{1, math.MinInt}, {math.MinInt, math.MaxInt}, {math.MinInt, 4}, {1, math.MaxInt}, {math.MaxInt, math.MinInt}, {2, 1}, {0, 0}, {0, -1}} {
		for _, done := range []int{0, 1 << 40, l[1]} {
			refused(t, plainBytes(api.Manifest{Parts: []api.Part{{ID: 1, State: api.Sealed, First: l[0], Last: l[1]}}, Done: done, Log: 1, Next: 2}))
		}
	}
}

func TestP16_2DecodeBeginnings(t *testing.T) {
	refused(t, "")
	for _, m := range []api.Manifest{New(), known(), full(30)} {
		s := plainBytes(m)
		for cut := range len(s) {
			refused(t, s[:cut])
			refused(t, s[cut+1:])
			refused(t, summed(s[cut+1:]))
			refused(t, s[:cut]+s[cut+1:])
			if cut < len(s)-4 {
				refused(t, summed(s[:cut]))
				refused(t, summed(s[cut+1:len(s)-4]))
				decoded(t, summed(s[:cut]+s[cut+1:len(s)-4])) // some are another one's
			}
		}
		for c := range 256 {
			behind := string([]byte{byte(c)})
			refused(t, s+behind)
			refused(t, summed(s[:len(s)-4]+behind))
			refused(t, summed(s+behind))
		}
		refused(t, s+s)
		refused(t, summed(s))
	}
	for n := range 20 {
		refused(t, strings.Repeat("\x00", n))
		refused(t, summed(strings.Repeat("\x00", n)))
		refused(t, summed("LGM1"+strings.Repeat("\x02", n)))
		refused(t, "LGM1"+strings.Repeat("\x00", n))
	}
	refused(t, strings.Repeat("LGM1", 1<<16))
}

// Each byte ahead of the sum is each other one, and the sum is theirs.
func TestP16_2DecodeTurned(t *testing.T) {
	told := map[api.Errno]int{}
	for _, m := range []api.Manifest{New(), known(), full(3), {Log: 1, Next: 1}} {
		s := plainBytes(m)
		s = s[:len(s)-4]
		for i := range s {
			for c := range 256 {
				_, e := decoded(t, summed(s[:i]+string([]byte{byte(c)})+s[i+1:]))
				told[e]++
				if i < 4 && byte(c) != s[i] && e == api.OK {
					t.Fatalf("the byte %d is %d", i, c)
				}
			}
		}
	}
	if told[api.OK] < 1000 || told[api.ErrManifest] < 1000 {
		t.Error(told)
	}
}

// A number told by more bytes than it needs, or of more bits than there are, or how many partitions there are by other numbers.
func TestP16_2DecodeOddNumbers(t *testing.T) {
	parts := func(id int, rest ...string) string { return whole(id) + strings.Join(rest, "") }
	anyOf := []int{0, 4, 9, 10} // the floor, now, and times: all others have bounds
	pieces := []string{whole(5), whole(9), whole(1), whole(4), whole(0), count(2), parts(2, whole(2), whole(-1), whole(7), whole(1), whole(4)), whole(3), whole(3), whole(0), whole(0), whole(5), whole(5)}
	if _, e := decoded(t, summed("LGM1"+strings.Join(pieces, ""))); e != api.OK {
		t.Fatal("these may be", e)
	}
	for i, was := range pieces {
		last := was[len(was)-1]
		for _, odd := range []string{"", was[:len(was)-1] + string([]byte{last | 128, 0}), was[:len(was)-1] + string([]byte{last | 128, 128, 0}), strings.Repeat("\xff", 9) + "\x02", strings.Repeat("\xff", 10) + "\x01", strings.Repeat("\xff", 9) + "\x01", strings.Repeat("\x80", 9) + "\x01", strings.Repeat("\x80", 20), was + was} {
			l := slices.Clone(pieces)
			l[i] = odd
			if _, e := decoded(t, summed("LGM1"+strings.Join(l, ""))); e == api.OK && !slices.Contains(anyOf, i) {
				t.Errorf("%x in place of %x", odd, was)
			}
		}
	}
	for _, n := range []int{0, 1, 3, 4, 127, 128, 511, 512, 513, 1 << 14, 1 << 32, 1<<32 + 2, 1 << 62, math.MaxInt, math.MinInt, -1, -2} {
		l := slices.Clone(pieces)
		l[5] = count(n)
		refused(t, summed("LGM1"+strings.Join(l, "")))
		l[5] = whole(n)
		decoded(t, summed("LGM1"+strings.Join(l, "")))
	}
}

func TestP16_2DecodeByChance(t *testing.T) {
	r := rand.New(rand.NewSource(6))
	for range 20000 {
		s := []byte(plainBytes(random(r, 3)))
		s = s[:len(s)-4]
		for range 1 + r.Intn(3) {
			i := r.Intn(len(s))
			switch r.Intn(3) {
			case 0:
				s[i] = byte(r.Intn(256))
			case 1:
				s = slices.Delete(s, i, i+1)
			default:
				s = slices.Insert(s, i, byte(r.Intn(256)))
			}
		}
		decoded(t, summed(string(s)))
		decoded(t, string(s))
	}
}

// Bytes of no manifest by their sum alone, whatever else they tell; also where the sum is told the other way round.
func TestP16_2DecodeOtherSums(t *testing.T) {
	for _, m := range []api.Manifest{New(), known(), full(4)} {
		s := []byte(plainBytes(m))
		end := len(s) - 4
		for _, sum := range [][]byte{{s[end+3], s[end+2], s[end+1], s[end]}, {^s[end], ^s[end+1], ^s[end+2], ^s[end+3]}, {0, 0, 0, 0}, {255, 255, 255, 255}, {s[end], s[end+1], s[end+2]}, {s[end]}, {}, {s[end], s[end+1], s[end+2], s[end+3], 0}} {
			refused(t, string(s[:end])+string(sum))
		}
	}
}

func TestP16_9OneByteTurned(t *testing.T) {
	for _, m := range []api.Manifest{New(), known(), full(20)} {
		s := []byte(plainBytes(m))
		for i := range s {
			was := s[i]
			for c := range 256 {
				s[i] = byte(c)
				if k, e := Decode(s); (e == api.OK) != (s[i] == was) || e != api.OK && (e != api.ErrManifest || !plainSame(k, api.Manifest{})) {
					t.Fatalf("the byte %d is %d, not %d: %s, %d", i, c, was, short(k), e)
				}
			}
			s[i] = was
		}
	}
	s := []byte(plainBytes(full(512)))
	for i := range s {
		s[i] ^= 1 << (i % 8)
		if _, e := Decode(s); e != api.ErrManifest {
			t.Fatal(i, e)
		}
		s[i] ^= 1 << (i % 8)
	}
}

func TestRule4Bytes(t *testing.T) {
	m := known()
	b, _ := Encode(m)
	was := bytes.Clone(b)
	c, _ := Encode(m)
	for i := range c {
		c[i] = 0
	}
	k, _ := Decode(b)
	l, _ := Decode(b)
	for i := range b {
		b[i] = 0
	}
	l.Parts[0].ID, l.Parts[1] = 99, api.Part{}
	same(t, k, known())
	same(t, m, known())
	if again, _ := Encode(m); !bytes.Equal(again, was) {
		t.Error("answers share memory")
	}
	room := append(make([]byte, 0, len(was)+8), was...)
	if n, e := Decode(room); e != api.OK || len(n.Parts) != 3 || !bytes.Equal(room[:cap(room)][len(was):], make([]byte, 8)) {
		t.Error(e)
	}
	n := append(k.Parts, api.Part{}) // an answer's room is its own
	o, _ := Decode(was)
	_ = append(o.Parts, api.Part{ID: 5})
	if n[3] != (api.Part{}) {
		t.Error("answers share room")
	}
}
