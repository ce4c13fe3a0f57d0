package stored

import (
	"math"
	"math/rand"
	"slices"
	"testing"

	"loggia/api"
)

// askedRows are rows that are asked at all places and of all numbers.
func askedRows() [][]api.Doc {
	l := [][]api.Doc{bare(1), bare(5), bare(1 << 40), bare(1, 1<<40), bare(1<<40-1, 1<<40), {doc(2, 7, "a", "b", "c", "d"), doc(4, 7, "a", "b", "c", "d"), doc(6, 7, "a", "b", "c", "d")}}
	r := rand.New(rand.NewSource(6))
	for _, n := range sizes {
		tight := many(n)
		for i := range tight {
			tight[i].Seq = i + 1
		}
		l = append(l, many(n), tight, randomRow(r, n))
	}
	return l
}

// oddPlaces are those of no doc of so many.
func oddPlaces(n int) []int {
	return []int{-1, n, n + 1, -n, -n - 1, n + 16, 65536, 1 << 32, 1<<32 + 1, math.MaxInt - 1, math.MaxInt, math.MinInt, math.MinInt + 1, math.MinInt + n}
}

// checkAt holds At of a row's bytes against the row.
func checkAt(t *testing.T, l []api.Doc, s string, i int) {
	t.Helper()
	want, x := []api.Doc{{}}, api.ErrRange
	if i >= 0 && i < len(l) {
		want, x = l[i:i+1], api.OK
	}
	b := []byte(s)
	if d, e := At(b, i); e != x || !plainSame([]api.Doc{d}, want) {
		t.Fatalf("At %d of %s: %s, %d, not %s, %d", i, short(l), short([]api.Doc{d}), e, short(want), x)
	}
	if string(b) != s {
		t.Fatal("At changes what is handed in")
	}
}

func TestP12_3At(t *testing.T) {
	for _, l := range askedRows() {
		s := plainBytes(l)
		for i := range l {
			checkAt(t, l, s, i)
		}
		for _, i := range oddPlaces(len(l)) {
			if i < 0 || i >= len(l) {
				checkAt(t, l, s, i)
			}
		}
	}
	for _, i := range []int{0, 1, -1, 16, math.MaxInt, math.MinInt} { // of no doc there is none
		if d, e := At([]byte("\x00"), i); !isZero(d) || e != 5 {
			t.Errorf("At %d of no doc: %v, %d", i, d, e)
		}
	}
}

// checkFind holds Find of a row's bytes against the row.
func checkFind(t *testing.T, l []api.Doc, s string, seq int) {
	t.Helper()
	want, there := []api.Doc{{}}, false
	for _, d := range l {
		if d.Seq == seq {
			want, there = []api.Doc{d}, true
		}
	}
	b := []byte(s)
	if d, ok, e := Find(b, seq); e != api.OK || ok != there || !plainSame([]api.Doc{d}, want) {
		t.Fatalf("Find of %d in %s: %s, %v, %d", seq, short(l), short([]api.Doc{d}), ok, e)
	}
	if string(b) != s {
		t.Fatal("Find changes what is handed in")
	}
}

func TestP12_3Find(t *testing.T) {
	for _, l := range askedRows() {
		s := plainBytes(l)
		for _, seq := range []int{0, 1, 2, -1, -2, math.MinInt, math.MaxInt, 1 << 40, 1<<40 + 1, 1<<40 - 1, 1 << 41, 1<<32 + 1, 1 << 39} {
			checkFind(t, l, s, seq)
		}
		for i, d := range l { // each, and about it: also between two docs of one block, between two blocks, below the first, above the last
			checkFind(t, l, s, d.Seq)
			checkFind(t, l, s, d.Seq-1)
			checkFind(t, l, s, d.Seq+1)
			if i > 0 && i%16 == 0 {
				checkFind(t, l, s, (l[i-1].Seq+d.Seq)/2)
			}
		}
	}
	for _, seq := range []int{0, 1, -1, 1 << 40} {
		if d, ok, e := Find([]byte("\x00"), seq); !isZero(d) || ok || e != api.OK {
			t.Errorf("Find of %d in no doc: %v, %v, %d", seq, d, ok, e)
		}
	}
}

func TestP12_3FindAboutBlocks(t *testing.T) {
	l := many(40) // 1, 4, .. 46; 49 .. 94; 97 .. 118
	s := plainBytes(l)
	for seq := range 125 {
		d, ok, e := Find([]byte(s), seq)
		there := seq%3 == 1 && seq <= 118
		if e != api.OK || ok != there || there && (d.Seq != seq || d.E.At != seq/3-5) || !there && !isZero(d) {
			t.Errorf("Find of %d: %v, %v, %d", seq, d, ok, e)
		}
	}
}

// checkSome holds Some of a row's bytes against the row.
func checkSome(t *testing.T, l []api.Doc, s string, places ...int) {
	t.Helper()
	var want []api.Doc
	x := api.OK
	for _, i := range places {
		if i < 0 || i >= len(l) {
			want, x = nil, api.ErrRange
			break
		}
		want = append(want, l[i])
	}
	b, was := []byte(s), slices.Clone(places)
	if got, e := Some(b, places...); e != x || !plainSame(got, want) {
		t.Fatalf("Some %v of %s: %s, %d, not %s, %d", places, short(l), short(got), e, short(want), x)
	}
	if string(b) != s || !slices.Equal(places, was) {
		t.Fatal("Some changes what is handed in")
	}
}

func TestP12_3Some(t *testing.T) {
	r := rand.New(rand.NewSource(7))
	for _, l := range askedRows() {
		s, n := plainBytes(l), len(l)
		var all []int
		for i := range n {
			all = append(all, i)
		}
		checkSome(t, l, s)
		checkSome(t, l, s, []int{}...)
		checkSome(t, l, s, all...)
		checkSome(t, l, s, append(slices.Clone(all), all...)...)
		slices.Reverse(all) // falling
		checkSome(t, l, s, all...)
		for _, i := range oddPlaces(n) { // alone, behind all that there are, ahead of them, between them, twice
			checkSome(t, l, s, i)
			checkSome(t, l, s, i, i)
			checkSome(t, l, s, append(slices.Clone(all), i)...)
			checkSome(t, l, s, append([]int{i}, all...)...)
			checkSome(t, l, s, slices.Insert(slices.Clone(all), n/2, i)...)
		}
		if n == 0 {
			continue
		}
		checkSome(t, l, s, 0, 0)
		checkSome(t, l, s, n-1, n-1, n-1, 0, n-1)
		for range 30 {
			places := make([]int, r.Intn(2*n+3))
			for k := range places {
				places[k] = r.Intn(n)
			}
			checkSome(t, l, s, places...)
		}
	}
	if l, e := Some([]byte("\x00")); len(l) > 0 || e != api.OK {
		t.Error(l, e)
	}
	if l, e := Some([]byte("\x00"), 0); len(l) > 0 || e != 5 {
		t.Error(l, e)
	}
	l := many(40)
	got, e := Some([]byte(plainBytes(l)), 39, 0, 16, 16, 15)
	if e != api.OK || len(got) != 5 || got[0].Seq != 118 || got[1].Seq != 1 || got[2].Seq != 49 || got[3].Seq != 49 || got[4].Seq != 46 {
		t.Error(got, e)
	}
}

func TestP12_3OfNoRow(t *testing.T) {
	for _, n := range []int{1, 16, 17, 40} { // wherever the fault is, and whatever is asked: Decode's error comes first
		g := plainTold(many(n))
		for _, turn := range []func(g *told){
			func(g *told) { g.n = number(n + 1) }, func(g *told) { g.n = number(70000) }, func(g *told) { g.lasts[len(g.lasts)-1] = "\x01\x00" },
			func(g *told) { g.bodies[len(g.bodies)-1] += "\x00" }, func(g *told) { g.bodies[0] = g.bodies[0][1:] }, func(g *told) { g.bodies[len(g.bodies)-1] = "" },
		} {
			bad := g.copy()
			turn(&bad)
			b := []byte(bad.bytes())
			refused(t, string(b))
			for i := -3; i < n+3; i++ {
				if d, e := At(b, i); !isZero(d) || e != 120 {
					t.Fatalf("At %d: %v, %d", i, d, e)
				}
				if l, e := Some(b, i); len(l) > 0 || e != 120 {
					t.Fatalf("Some %d: %v, %d", i, l, e)
				}
				if l, e := Some(b, 0, i, 0); len(l) > 0 || e != 120 {
					t.Fatalf("Some 0, %d, 0: %v, %d", i, l, e)
				}
			}
			for seq := -3; seq < 3*n+3; seq++ {
				if d, ok, e := Find(b, seq); !isZero(d) || ok || e != 120 {
					t.Fatalf("Find of %d: %v, %v, %d", seq, d, ok, e)
				}
			}
		}
	}
}

func TestP12_4ThereAndBack(t *testing.T) {
	for _, l := range goodRows() {
		b, e := Encode(l)
		if e != api.OK {
			t.Fatalf("Encode of %s: %d", short(l), e)
		}
		back, e := Decode(b)
		if e != api.OK || !plainSame(back, l) || !Same(back, l) {
			t.Fatalf("%s is %s, there and back, %d", short(l), short(back), e)
		}
		if again, e := Encode(back); e != api.OK || !slices.Equal(again, b) {
			t.Fatalf("what was decoded, encoded, is %.80x, not %.80x, %d", again, b, e)
		}
		if n, e := Count(b); e != api.OK || n != len(l) {
			t.Fatalf("Count of %s: %d, %d", short(l), n, e)
		}
	}
}

func TestP12_4OfBytes(t *testing.T) {
	r := rand.New(rand.NewSource(8))
	rows := 0
	for i := range 20000 { // whatever is decoded, and be it nothing that was encoded here
		b := []byte(plainBytes(randomRow(r, i%6)))
		if at := r.Intn(len(b)); r.Intn(5) > 0 {
			b[at] = byte(r.Intn(256)) >> r.Intn(8)
		}
		l, e := Decode(b)
		if e != api.OK {
			continue
		}
		rows++
		if Check(l) != api.OK {
			t.Fatalf("Decode of %x: %s, which may not be", b, short(l))
		}
		if again, e := Encode(l); e != api.OK || !slices.Equal(again, b) {
			t.Fatalf("Encode of what %x is: %x, %d", b, again, e)
		}
	}
	if rows < 5000 || rows > 18000 {
		t.Errorf("%d are rows", rows)
	}
}

func TestP12_4NoBeginning(t *testing.T) {
	r := rand.New(rand.NewSource(9))
	for i := range 150 {
		b, _ := Encode(randomRow(r, 1+i%40))
		for n := range b {
			if l, e := Decode(b[:n]); len(l) > 0 || e != api.ErrStored {
				t.Fatalf("%d of the %d bytes of a row, %.80x: %s, %d", n, len(b), b, short(l), e)
			}
		}
	}
}

func TestP12_5Found(t *testing.T) {
	r := rand.New(rand.NewSource(10))
	rows := askedRows()
	for i := range 40 {
		rows = append(rows, randomRow(r, 1+2*i))
	}
	for _, l := range rows {
		b, _ := Encode(l)
		for i, d := range l {
			if at, e := At(b, i); e != api.OK || !Same([]api.Doc{at}, []api.Doc{d}) {
				t.Fatalf("At %d of %s: %v, %d", i, short(l), at, e)
			}
			if found, ok, e := Find(b, d.Seq); e != api.OK || !ok || !Same([]api.Doc{found}, []api.Doc{d}) {
				t.Fatalf("Find of %d in %s: %v, %v, %d", d.Seq, short(l), found, ok, e)
			}
		}
	}
}

// spoil turns all that a row's lists have, and what could stand behind them.
func spoil(l []api.Doc) {
	for i := range l {
		fields := l[i].E.Fields[:cap(l[i].E.Fields)]
		for k := range fields {
			fields[k] = api.Field{Name: "spoilt", Text: "spoilt"}
		}
		l[i].Seq, l[i].E.At = -9, -9
	}
}

func TestRule4NothingIsKept(t *testing.T) {
	r := rand.New(rand.NewSource(11))
	for i := range 120 {
		l := randomRow(r, 1+i%50)
		s := plainBytes(l)
		b := []byte(s)
		row, _ := Decode(b)
		some, _ := Some(b, 0, 0, 0)
		one, _ := At(b, 0)
		clear(b) // bytes that were handed in
		if !plainSame(row, l) {
			t.Fatal("Decode keeps what is handed in")
		}
		if len(l) == 0 {
			continue
		}
		found, _, _ := Find([]byte(s), l[0].Seq)
		want := l[:1]
		if !plainSame(some, []api.Doc{l[0], l[0], l[0]}) || !plainSame([]api.Doc{one}, want) || !plainSame([]api.Doc{found}, want) {
			t.Fatal("Some or At keep what is handed in")
		}
		spoil(some[:1]) // no two lists of an answer share any, nor two answers
		if !plainSame(some[1:], []api.Doc{l[0], l[0]}) || !plainSame(row, l) || !plainSame([]api.Doc{one}, want) || !plainSame([]api.Doc{found}, want) {
			t.Fatal("docs of Some share memory")
		}
		for k := range row { // from each end on
			spoil(row[k : k+1])
			if !plainSame(row[k+1:], l[k+1:]) {
				t.Fatal("docs of Decode share memory")
			}
		}
		if again, _ := Decode([]byte(s)); !plainSame(again, l) || !plainSame([]api.Doc{one}, want) {
			t.Fatal("answers share memory")
		}
	}
}

func TestRule4EncodeKeepsNothing(t *testing.T) {
	l := many(40)
	b, _ := Encode(l)
	s := string(b)
	spoil(l)
	if string(b) != s || s != plainBytes(many(40)) {
		t.Error("Encode keeps what is handed in")
	}
	_ = append(b, xs(100)...)
	c, _ := Encode(many(40))
	clear(c)
	if string(b) != s {
		t.Error("two answers of Encode share memory")
	}
}
