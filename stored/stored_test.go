package stored

import (
	"fmt"
	"math"
	"math/rand"
	"slices"
	"strings"
	"testing"

	"loggia/api"
)

// goodRows may be: at the ends, about blocks, and random ones.
func goodRows() [][]api.Doc {
	full := doc(5, math.MinInt)
	for range 16 {
		full.E.Fields = append(full.E.Fields, api.Field{Name: strings.Repeat("n", 32), Text: strings.Repeat("\xff", 4096)})
	}
	l := [][]api.Doc{
		nil, {}, {doc(1, 0)}, {{Seq: 1, E: api.Event{Fields: []api.Field{}}}}, {doc(1<<40, 0)}, bare(1, 1<<40), bare(1<<40-1, 1<<40), bare(1, 2, 3), bare(2, 3), bare(1, 128, 129, 256, 385), bare(127), bare(128), bare(129), bare(16384, 16385, 32769), bare(1, 1<<20, 1<<30, 1<<40),
		{doc(1, -1, "a", "")}, {doc(7, 0, "a", "b", "a", "b")}, {alike(1, 15, "a", "")}, {alike(1, 16, "a", "")}, {alike(1, 16, "_", xs(4096))}, {doc(1, 0, "a", xs(127), "b", xs(128))}, {full}, {doc(1, 1), full, doc(6, 0)},
		{doc(3, 5, "a", "x"), doc(4, 5, "a", "x"), doc(9, 5, "a", "x")}, {doc(3, 9), doc(4, -9), doc(5, math.MinInt), doc(6, math.MaxInt)},
	}
	for _, n := range sizes {
		row := many(n)
		high := copyOfAll(row) // its last number is the greatest one
		for i := range high {
			high[i].Seq += 1<<40 - row[n-1].Seq
		}
		tight := copyOfAll(row) // no number is left out
		for i := range tight {
			tight[i].Seq = i + 1
		}
		l = append(l, row, high, tight)
	}
	for _, at := range oddTimes {
		l = append(l, []api.Doc{doc(1, at)}, []api.Doc{doc(2, at, "a", "b"), doc(3, at)})
	}
	r := rand.New(rand.NewSource(12))
	for i := range 300 {
		l = append(l, randomRow(r, 1+i%70))
	}
	return l
}

// badRows may not be.
func badRows() [][]api.Doc {
	l := [][]api.Doc{bare(1, 1), bare(2, 1), bare(1, 2, 2), bare(1, 3, 2), bare(1, 1, 2), bare(2, 1, 3), bare(1<<40, 1<<40), bare(1<<40, 1), bare(1<<40, 1<<40+1), bare(0, 1), bare(-1, 0, 1), {{}}, {{}, {}}}
	for _, n := range sizes {
		for _, at := range []int{0, n / 2, n - 2, n - 1, 15, 16} { // the first, a middle and the last place, and about a block's end
			if at < 0 || at >= n {
				continue
			}
			for _, seq := range oddSeqs {
				row := many(n)
				row[at].Seq = seq
				l = append(l, row)
			}
			for _, e := range oddEvents() {
				row := many(n)
				row[at].E = e
				l = append(l, row)
			}
			if at > 0 {
				same, less := many(n), many(n)
				same[at].Seq = same[at-1].Seq
				less[at].Seq = less[at-1].Seq - 1
				l = append(l, same, less)
			}
		}
	}
	return l
}

// short is a row for a message: how many docs it has, and the first few.
func short(l []api.Doc) string {
	return fmt.Sprintf("%d docs, %.200s", len(l), fmt.Sprint(l[:min(len(l), 5)]))
}

// checkCheck holds Check of a row against the chapter's words, and tells whether it may be.
func checkCheck(t *testing.T, l []api.Doc) bool {
	t.Helper()
	was, want := copyOfAll(l), api.OK
	if !plainMay(l) {
		want = 120
	}
	if e := Check(l); e != want {
		t.Fatalf("Check of %s: %d, not %d", short(l), e, want)
	}
	if !plainSame(l, was) {
		t.Fatal("Check changes what is handed in")
	}
	return want == api.OK
}

func TestP12_1Check(t *testing.T) {
	for i, l := range goodRows() {
		if !checkCheck(t, l) {
			t.Errorf("the good row %d may not be", i)
		}
	}
	for i, l := range badRows() {
		if checkCheck(t, l) {
			t.Errorf("the bad row %d may be", i)
		}
	}
	for _, e := range oddEvents() { // whatever stands about it
		for _, l := range [][]api.Doc{{{Seq: 1, E: e}}, {{Seq: 1<<40 + 1, E: e}}, {doc(1, 0), {Seq: 2, E: e}, doc(3, 0)}, {{Seq: 1, E: e}, {Seq: 1, E: e}}} {
			if e := Check(l); e != api.ErrStored {
				t.Errorf("Check of %s: %d", short(l), e)
			}
		}
	}
}

func TestP12_1CheckOfNumbers(t *testing.T) {
	seqs := []int{-1, 0, 1, 2, 3, 1<<40 - 1, 1 << 40, 1<<40 + 1}
	for _, a := range seqs {
		checkCheck(t, bare(a))
		for _, b := range seqs {
			checkCheck(t, bare(a, b))
			for _, c := range seqs {
				checkCheck(t, bare(a, b, c))
			}
		}
	}
	if e := Check(bare(1<<40 - 1)); e != 0 {
		t.Error(e)
	}
	if e := Check(bare(1 << 40)); e != 0 {
		t.Error(e)
	}
	if e := Check(bare(1<<40 + 1)); e != 120 {
		t.Error(e)
	}
}

func TestP12_1CheckOfMost(t *testing.T) {
	l := many(65537)
	for _, c := range []struct {
		n int
		e api.Errno
	}{{65535, api.OK}, {65536, api.OK}, {65537, api.ErrStored}} {
		if e := Check(l[:c.n]); e != c.e {
			t.Errorf("Check of %d docs: %d", c.n, e)
		}
	}
	l[65535].Seq = l[65534].Seq
	if e := Check(l[:65536]); e != api.ErrStored {
		t.Error("the last of 65536 docs has the number of the one ahead:", e)
	}
	if e := Check(make([]api.Doc, 1<<20)); e != api.ErrStored {
		t.Error(e)
	}
}

func TestP12_1CheckOfTurned(t *testing.T) {
	r := rand.New(rand.NewSource(1))
	may := 0
	for i := range 6000 {
		l := randomRow(r, 1+i%50)
		for range r.Intn(3) {
			l = turned(r, l)
		}
		if checkCheck(t, l) {
			may++
		}
	}
	if may < 1500 || may > 4500 {
		t.Errorf("%d may be", may)
	}
}

func TestP12_1Same(t *testing.T) {
	l := []api.Doc{doc(1, 5, "a", "b"), doc(2, 5, "a", "b", "c", "d"), doc(3, 0)}
	for i, c := range []struct {
		a, b []api.Doc
		same bool
	}{
		{nil, nil, true}, {nil, []api.Doc{}, true}, {[]api.Doc{}, nil, true}, {l, copyOfAll(l), true}, {many(100), many(100), true},
		{nil, l[:1], false}, {l[:1], nil, false}, {nil, []api.Doc{{}}, false}, {l[:2], l, false}, {l, l[:2], false}, {l[1:], l, false}, {l, l[1:], false}, {many(16), many(17), false}, {many(33), many(32), false},
		{[]api.Doc{{Seq: 1}}, []api.Doc{{Seq: 1, E: api.Event{Fields: []api.Field{}}}}, true}, // nil and empty lists are the same
		{[]api.Doc{doc(1, 5)}, []api.Doc{doc(2, 5)}, false}, {[]api.Doc{doc(1, 5)}, []api.Doc{doc(1, 6)}, false}, {[]api.Doc{doc(1, 5)}, []api.Doc{doc(5, 1)}, false}, {bare(1, 2), bare(2, 1), false}, {bare(1, 2), bare(1, 3), false}, {bare(1, 3), bare(2, 3), false},
		{[]api.Doc{doc(1, 5, "a", "b")}, []api.Doc{doc(1, 5, "a", "c")}, false}, {[]api.Doc{doc(1, 5, "a", "b")}, []api.Doc{doc(1, 5, "b", "b")}, false}, {[]api.Doc{doc(1, 5, "a", "b")}, []api.Doc{doc(1, 5)}, false}, {[]api.Doc{doc(1, 5)}, []api.Doc{doc(1, 5, "a", "b")}, false},
		{[]api.Doc{doc(1, 5, "a", "b")}, []api.Doc{doc(1, 5, "a", "b", "a", "b")}, false}, {[]api.Doc{doc(1, 5, "a", "b", "c", "d")}, []api.Doc{doc(1, 5, "c", "d", "a", "b")}, false}, {[]api.Doc{doc(1, 5, "ab", "c")}, []api.Doc{doc(1, 5, "a", "bc")}, false}, {[]api.Doc{doc(1, 0, "a", "")}, []api.Doc{doc(1, 0)}, false}, {[]api.Doc{doc(1, 0, "a", "B")}, []api.Doc{doc(1, 0, "a", "b")}, false},
		{bare(0, -1, -1), bare(0, -1, -1), true}, {bare(math.MinInt), bare(math.MaxInt), false}, {[]api.Doc{alike(0, 20, "A b", xs(5000))}, []api.Doc{alike(0, 20, "A b", xs(5000))}, true}, {[]api.Doc{alike(0, 20, "A b", xs(5000))}, []api.Doc{alike(0, 20, "A b", xs(4999)+"y")}, false}, // also of rows that may not be
	} {
		if Same(c.a, c.b) != c.same {
			t.Errorf("case %d: Same of %s and %s: %v", i, short(c.a), short(c.b), !c.same)
		}
	}
}

func TestP12_1SameOfTurned(t *testing.T) {
	r := rand.New(rand.NewSource(2))
	same := 0
	for i := range 4000 {
		a := randomRow(r, 1+i%40)
		b := turned(r, a)
		if Same(a, b) != plainSame(a, b) || Same(b, a) != plainSame(a, b) || !Same(a, a) || !Same(b, copyOfAll(b)) {
			t.Fatalf("Same of %s and %s", short(a), short(b))
		}
		if plainSame(a, b) {
			same++
		}
	}
	if same < 100 || same > 3000 {
		t.Errorf("%d are the same", same)
	}
	for _, n := range sizes { // one doc is another one, wherever
		for i := range n {
			for _, turn := range []func(d *api.Doc){
				func(d *api.Doc) { d.Seq++ }, func(d *api.Doc) { d.E.At++ }, func(d *api.Doc) { d.E.Fields[0].Name = "msh" }, func(d *api.Doc) { d.E.Fields[1].Text = "A" },
				func(d *api.Doc) { d.E.Fields = d.E.Fields[:1] }, func(d *api.Doc) { d.E.Fields = append(d.E.Fields, api.Field{}) },
			} {
				other := many(n)
				turn(&other[i])
				if Same(many(n), other) || Same(other, many(n)) {
					t.Fatalf("Same of %d docs of which the one at %d is another one", n, i)
				}
			}
		}
	}
}

// checkEncode holds Encode of a row against the chapter's words, and answers the bytes.
func checkEncode(t *testing.T, l []api.Doc) string {
	t.Helper()
	was, want, x := copyOfAll(l), "", api.ErrStored
	if plainMay(l) {
		want, x = plainBytes(l), api.OK
	}
	b, e := Encode(l)
	if e != x || string(b) != want {
		t.Fatalf("Encode of %s: %.200x, %d, not %.200x, %d", short(l), b, e, want, x)
	}
	if !plainSame(l, was) {
		t.Fatal("Encode changes what is handed in")
	}
	clear(b) // it is new memory, or what is encoded anew is another row's
	if c, _ := Encode(l); string(c) != want {
		t.Fatal("Encode shares memory")
	}
	return want
}

func TestP12_2Example(t *testing.T) {
	for _, c := range []struct {
		l []api.Doc
		s string
	}{{nil, "\x00"}, {[]api.Doc{}, "\x00"}, {[]api.Doc{{Seq: 1}}, "\x01\x01\x03\x00\x00\x00"}} {
		if b, e := Encode(c.l); e != 0 || string(b) != c.s {
			t.Errorf("%v: %x, %d", c.l, b, e)
		}
		if l, e := Decode([]byte(c.s)); e != 0 || !plainSame(l, c.l) {
			t.Errorf("%x: %v, %d", c.s, l, e)
		}
		if n, e := Count([]byte(c.s)); e != 0 || n != len(c.l) {
			t.Errorf("%x: %d, %d", c.s, n, e)
		}
	}
}

func TestP12_2EncodeOfKnown(t *testing.T) {
	zeros := func(n, by int) []api.Doc {
		var l []api.Doc
		for i := range n {
			l = append(l, doc(by*(i+1), 0))
		}
		return l
	}
	for _, c := range []struct {
		l []api.Doc
		s string
	}{
		{[]api.Doc{doc(300, -3, "msg", "ok")}, "\x01\xac\x02\x0b\xab\x02\x05\x01\x03msg\x02ok"},
		{[]api.Doc{doc(1<<40, 0)}, "\x01\x80\x80\x80\x80\x80\x20\x08\xff\xff\xff\xff\xff\x1f\x00\x00"},
		{[]api.Doc{doc(1, 1), doc(2, -1), doc(5, 2, "a", "")}, "\x03\x05\x0c\x00\x02\x00\x00\x01\x00\x02\x04\x01\x01a\x00"},
		{[]api.Doc{doc(128, 0), doc(257, 0)}, "\x02\x81\x02\x07\x7f\x00\x00\x80\x01\x00\x00"},
		{zeros(15, 1), "\x0f\x0f\x2d" + strings.Repeat("\x00\x00\x00", 15)},
		{zeros(16, 1), "\x10\x10\x30" + strings.Repeat("\x00\x00\x00", 16)},
		{zeros(17, 1), "\x11\x10\x30\x11\x03" + strings.Repeat("\x00\x00\x00", 17)},
		{zeros(32, 1), "\x20\x10\x30\x20\x30" + strings.Repeat("\x00\x00\x00", 32)},
		{zeros(33, 1), "\x21\x10\x30\x20\x30\x21\x03" + strings.Repeat("\x00\x00\x00", 33)},
		{zeros(17, 10), "\x11\xa0\x01\x30\xaa\x01\x03" + strings.Repeat("\x09\x00\x00", 17)},
		{zeros(34, 2), "\x22\x20\x30\x40\x30\x44\x06" + strings.Repeat("\x01\x00\x00", 34)},
		{[]api.Doc{doc(1, 0, "a", xs(127)), doc(2, 0, "b", xs(128))}, "\x02\x02\x8c\x02\x00\x00\x01\x01a\x7f" + xs(127) + "\x00\x00\x01\x01b\x80\x01" + xs(128)},
	} {
		if b, e := Encode(c.l); e != api.OK || string(b) != c.s {
			t.Errorf("Encode of %s: %x, %d, not %x", short(c.l), b, e, c.s)
		}
		if l, e := Decode([]byte(c.s)); e != api.OK || !plainSame(l, c.l) {
			t.Errorf("Decode of %x: %s, %d", c.s, short(l), e)
		}
	}
}

func TestP12_2Encode(t *testing.T) {
	for _, l := range goodRows() {
		checkEncode(t, l)
	}
	for _, l := range badRows() {
		if b, e := Encode(l); len(b) > 0 || e != api.ErrStored {
			t.Fatalf("Encode of %s: %.80x, %d", short(l), b, e)
		}
	}
	r := rand.New(rand.NewSource(3))
	for i := range 1500 {
		checkEncode(t, turned(r, randomRow(r, 1+i%60)))
	}
}

func TestP12_2Most(t *testing.T) {
	l := many(65537)
	if b, e := Encode(l); len(b) > 0 || e != api.ErrStored {
		t.Errorf("Encode of 65537 docs: %d bytes, %d", len(b), e)
	}
	refused(t, plainBytes(l))
	most := l[:65536]
	b := []byte(checkEncode(t, most))
	if got, e := Decode(b); e != api.OK || !plainSame(got, most) {
		t.Errorf("Decode of 65536 docs: %d, %d", len(got), e)
	}
	if n, e := Count(b); e != api.OK || n != 65536 {
		t.Errorf("Count of 65536 docs: %d, %d", n, e)
	}
	for _, i := range []int{0, 65519, 65535} {
		if d, e := At(b, i); e != api.OK || !plainSame([]api.Doc{d}, l[i:i+1]) {
			t.Errorf("At %d of 65536 docs: %v, %d", i, d, e)
		}
		if d, ok, e := Find(b, l[i].Seq); e != api.OK || !ok || !plainSame([]api.Doc{d}, l[i:i+1]) {
			t.Errorf("Find of %d in 65536 docs: %v, %v, %d", l[i].Seq, d, ok, e)
		}
	}
	if d, e := At(b, 65536); e != api.ErrRange || !isZero(d) {
		t.Errorf("At 65536 of 65536 docs: %v, %d", d, e)
	}
	last := slices.Clone(most)
	last[65535].E.Fields = make([]api.Field, 1)
	if b, e := Encode(last); len(b) > 0 || e != api.ErrStored {
		t.Errorf("Encode of 65536 docs of which the last may not be: %d bytes, %d", len(b), e)
	}
	refused(t, plainBytes(last))
}

func TestP12_2TheLongestEvents(t *testing.T) {
	var l []api.Doc
	for i := range 17 {
		l = append(l, alike(1<<39+i, 16, strings.Repeat("n", 32), xs(4096)))
		l[i].E.At = math.MinInt + i
	}
	s := checkEncode(t, l)
	got, e := Decode([]byte(s))
	if e != api.OK || !plainSame(got, l) {
		t.Errorf("%d docs, %d", len(got), e)
	}
	for _, i := range []int{0, 15, 16} {
		if d, e := At([]byte(s), i); e != api.OK || !plainSame([]api.Doc{d}, l[i:i+1]) {
			t.Errorf("At %d: %s, %d", i, short([]api.Doc{d}), e)
		}
	}
	refused(t, s[:len(s)-1])
	refused(t, s[:len(s)-4096])
	refused(t, s+"\x00")
}
