package stored

import (
	"math"
	"math/rand"
	"slices"
	"strings"
	"testing"

	"loggia/api"
)

// refused says that every call must refuse bytes, wherever it looks.
func refused(t *testing.T, s string) {
	t.Helper()
	b := []byte(s)
	if l, e := Decode(b); len(l) > 0 || e != api.ErrStored {
		t.Fatalf("Decode of %.80x (%d bytes): %d docs, %d", s, len(s), len(l), e)
	}
	if n, e := Count(b); n != 0 || e != api.ErrStored {
		t.Fatalf("Count of %.80x: %d, %d", s, n, e)
	}
	for _, i := range []int{0, -1, 1 << 40} {
		if d, e := At(b, i); !isZero(d) || e != api.ErrStored {
			t.Fatalf("At %d of %.80x: %v, %d", i, s, d, e)
		}
		if d, ok, e := Find(b, i+1); !isZero(d) || ok || e != api.ErrStored {
			t.Fatalf("Find of %d in %.80x: %v, %v, %d", i+1, s, d, ok, e)
		}
		if l, e := Some(b, i, 0); len(l) > 0 || e != api.ErrStored {
			t.Fatalf("Some %d, 0 of %.80x: %v, %d", i, s, l, e)
		}
	}
	if l, e := Some(b); len(l) > 0 || e != api.ErrStored {
		t.Fatalf("Some of no place of %.80x: %v, %d", s, l, e)
	}
	if string(b) != s {
		t.Fatalf("bytes that are handed in are changed: %.80x", s)
	}
}

// checkDecode holds Decode and Count of bytes against the chapter's words, and tells whether they are a row's.
func checkDecode(t *testing.T, s string) bool {
	t.Helper()
	want, ok := plainDecode(s)
	x := api.OK
	if !ok {
		x = api.ErrStored
	}
	b := []byte(s)
	l, e := Decode(b)
	if e != x || !plainSame(l, want) {
		t.Fatalf("Decode of %.80x (%d bytes): %s, %d, not %s, %d", s, len(s), short(l), e, short(want), x)
	}
	if n, e := Count(b); n != len(want) || e != x {
		t.Fatalf("Count of %.80x: %d, %d", s, n, e)
	}
	if string(b) != s {
		t.Fatalf("bytes that are handed in are changed: %.80x", s)
	}
	return ok
}

// goodTold are what the bytes of rows tell that are soon gone through, of 0 to 49 docs.
func goodTold() []told {
	var l []told
	r := rand.New(rand.NewSource(4))
	for _, n := range sizes[:12] {
		l = append(l, plainTold(many(n)))
		var bare []api.Doc
		for i := range n {
			bare = append(bare, doc(1+i*i, 0))
		}
		l = append(l, plainTold(bare))
		random := randomRow(r, n)
		for len(plainBytes(random)) > 1500 {
			random = random[1:]
		}
		l = append(l, plainTold(random))
	}
	return l
}

func TestP12_2DecodeOfGood(t *testing.T) {
	for _, l := range goodRows() {
		s := plainBytes(l)
		if got, e := Decode([]byte(s)); e != api.OK || !plainSame(got, l) {
			t.Fatalf("Decode of %s: %d docs, %d", short(l), len(got), e)
		}
		if n, e := Count([]byte(s)); e != api.OK || n != len(l) {
			t.Fatalf("Count of %d docs: %d, %d", len(l), n, e)
		}
	}
	for _, l := range badRows() { // such as they would be, if they could be
		refused(t, plainBytes(l))
	}
}

func TestP12_2DecodeOfShort(t *testing.T) {
	refused(t, "")
	rows := 0
	var all func(s, kinds string, n int)
	all = func(s, kinds string, n int) {
		if checkDecode(t, s) {
			rows++
		}
		if n > 0 {
			for i := range len(kinds) {
				all(s+kinds[i:i+1], kinds, n-1)
			}
		}
	}
	all("", "\x00\x01\x03\x80", 6)
	all("\x01\x01", "\x00\x01\x03\x04\x80", 6)
	all("\x01\x01\x06\x00", "\x00\x01\x02a\x80", 6)
	all("\x02", "\x00\x02\x03\x06", 7)
	all("\x02\x02\x06", "\x00\x01\x81", 7)
	all("\x02\x03\x06", "\x00\x01\x02", 6)
	for i := range 256 {
		all(string([]byte{byte(i)}), "\x00\x01\x10", 2)
		for j := range 256 {
			all("\x01"+string([]byte{byte(i), 3, byte(j), 0, 0}), "", 0)
		}
	}
	if rows < 10 {
		t.Errorf("%d are rows", rows)
	}
}

func TestP12_2DecodeOfBeginnings(t *testing.T) {
	for _, g := range goodTold() {
		s := g.bytes()
		for i := range s {
			refused(t, s[:i])
		}
	}
}

func TestP12_2DecodeOfMoreBehind(t *testing.T) {
	for _, g := range goodTold() {
		s := g.bytes()
		for i := range 256 {
			if _, e := Decode([]byte(s + string([]byte{byte(i)}))); e != api.ErrStored {
				t.Fatalf("Decode of %.80x and %d: %d", s, i, e)
			}
		}
		for _, more := range []string{"\x00", "\x00\x00\x00", "\x01\x01\x03\x00\x00\x00", s, xs(70000)} {
			refused(t, s+more)
		}
	}
}

func TestP12_2DecodeOfOtherCounts(t *testing.T) {
	for _, g := range goodTold() {
		n := int(g.n[0])
		for c := range 200 {
			if c != n {
				g.n = number(c)
				refused(t, g.bytes())
			}
		}
		for _, c := range []int{255, 16384, 65535, 65536, 65537, 65552, 1 << 17, 1<<32 + n, 1 << 40, 1<<62 + n, -1, -1 << 63, -1<<63 + n} {
			g.n = number(c)
			refused(t, g.bytes())
		}
	}
	for _, s := range []string{"\x80\x80\x04", "\x81\x80\x04", "\xff\xff\x03", "\xff\xff\xff\xff\xff\xff\xff\xff\xff\x01", "\xff\xff\xff\xff\xff\xff\xff\xff\xff\x02", "\x80\x80\x80\x80\x80\x80\x80\x80\x80\x80\x01", "\xff", "\x80", "\x80\x00"} {
		refused(t, s)
		refused(t, s+strings.Repeat("\x00", 100))
		refused(t, s+strings.Repeat("\x01", 20000))
		refused(t, s+strings.Repeat("\xff", 20000))
	}
}

// refusedTurns says that every call must refuse what is told, if one turn of it makes other bytes.
func refusedTurns(t *testing.T, g told, turn func(g *told)) {
	t.Helper()
	was := g.bytes()
	g = g.copy()
	turn(&g)
	if s := g.bytes(); s != was {
		refused(t, s)
	}
}

// numberOf is the number that has these bytes.
func numberOf(s string) int { return (&loose{left: s}).number() }

func TestP12_2DecodeOfOtherLasts(t *testing.T) {
	for _, g := range goodTold() {
		for i, last := range g.lasts {
			n := numberOf(last)
			for _, other := range []int{n - 1, n + 1, n - 2, n + 2, 0, 1, n - 16, n + 16, n + 128, 2 * n, 1 << 40, 1<<40 + 1, n + 1<<40, n + 1<<41, n + math.MinInt, -1, -n} {
				if other != n {
					refusedTurns(t, g, func(g *told) { g.lasts[i] = number(other) })
				}
			}
			for j := range g.lasts { // two of them in one another's place
				refusedTurns(t, g, func(g *told) { g.lasts[i], g.lasts[j] = g.lasts[j], g.lasts[i] })
			}
		}
	}
}

func TestP12_2DecodeOfOtherSizes(t *testing.T) {
	for _, g := range goodTold() {
		for i, size := range g.sizes {
			n := numberOf(size)
			for _, other := range []int{n - 1, n + 1, n - 2, n + 2, 0, 1, n - 3, n + 3, 2 * n, n + 128, len(g.bytes()), 1 << 20, 1 << 31, n + 1<<32, 1 << 40, n + 1<<41, n + math.MinInt, -1, -n} {
				if other != n {
					refusedTurns(t, g, func(g *told) { g.sizes[i] = number(other) })
				}
			}
			for j, size := range g.sizes[i+1:] { // another one makes up for it
				for _, by := range []int{1, -1, 2, -2, 3, -3, 4, -4, n, -n} {
					if n+by >= 0 && numberOf(size)-by >= 0 && by != 0 {
						refusedTurns(t, g, func(g *told) { g.sizes[i], g.sizes[i+1+j] = number(n+by), number(numberOf(size)-by) })
					}
				}
			}
		}
	}
}

func TestP12_2DecodeOfOtherBlocks(t *testing.T) {
	for _, g := range goodTold() {
		for i, body := range g.bodies {
			for _, other := range []string{"", body + "\x00", body + "\x00\x00\x00", "\x00" + body, body[1:], body[:len(body)-1], body + body, strings.Repeat("\x00", len(body)+3), strings.Repeat("\xff", len(body))} {
				refusedTurns(t, g, func(g *told) { g.bodies[i] = other })
				refusedTurns(t, g, func(g *told) { g.bodies[i], g.sizes[i] = other, number(len(other)) })
			}
			for j := range i {
				other := g.copy()
				other.bodies[i], other.bodies[j] = g.bodies[j], body // perhaps of as many bytes, and with the same numbers
				checkDecode(t, other.bytes())
			}
			refusedTurns(t, g, func(g *told) { // one block less than there must be, and one more
				g.lasts, g.sizes, g.bodies = slices.Delete(g.lasts, i, i+1), slices.Delete(g.sizes, i, i+1), slices.Delete(g.bodies, i, i+1)
			})
			refusedTurns(t, g, func(g *told) {
				g.lasts, g.sizes, g.bodies = append(g.lasts, g.lasts[i]), append(g.sizes, g.sizes[i]), append(g.bodies, g.bodies[i])
			})
		}
		refusedTurns(t, g, func(g *told) { // an empty block behind all
			g.lasts, g.sizes = append(g.lasts, "\x00"), append(g.sizes, "\x00")
		})
	}
	for _, n := range []int{15, 16, 17, 32} { // the docs are dealt to the blocks in another way
		for from := 1; from < n; from++ {
			l := many(n)
			first, second := plainTold(l[:from]), plainTold(l)
			if len(first.bodies) > 1 || len(strings.Join(second.bodies, "")) == 0 {
				continue
			}
			all := strings.Join(second.bodies, "")
			body := first.bodies[0]
			g := told{n: number(n), lasts: []string{first.lasts[0], second.lasts[len(second.lasts)-1]}, sizes: []string{number(len(body)), number(len(all) - len(body))}, bodies: []string{all}}
			if s := g.bytes(); s != plainBytes(l) {
				refused(t, s)
			}
		}
		l := many(n)
		all := strings.Join(plainTold(l).bodies, "")
		g := told{n: number(n), lasts: []string{number(l[n-1].Seq)}, sizes: []string{number(len(all))}, bodies: []string{all}}
		if s := g.bytes(); s != plainBytes(l) {
			refused(t, s)
		}
	}
}

// longer is a number's bytes, told by one more than it needs.
func longer(s string) string {
	b := []byte(s)
	b[len(b)-1] |= 128
	return string(append(b, 0))
}

func TestP12_2DecodeOfNumbersToldTooLong(t *testing.T) {
	for _, g := range goodTold() {
		refusedTurns(t, g, func(g *told) { g.n = longer(g.n) })
		for i := range g.lasts {
			refusedTurns(t, g, func(g *told) { g.lasts[i] = longer(g.lasts[i]) })
			refusedTurns(t, g, func(g *told) { g.sizes[i] = longer(g.sizes[i]) })
		}
	}
	for _, parts := range [][]string{{"\x04", "\x0a", "\x01", "\x01", "a", "\x02", "bc"}, {"\xac\x02", "\x80\x01", "\x02", "\x03", "msg", "\x00", "\x01", "z", "\x01", "\x00"}, {"\x00", "\x00", "\x00"}} {
		last := number(numberOf(parts[0]) + 1)
		row := func(parts []string) string {
			body := strings.Join(parts, "")
			return "\x01" + last + number(len(body)) + body
		}
		if !checkDecode(t, row(parts)) {
			t.Fatalf("%x is no row", row(parts))
		}
		for i, part := range parts {
			other := slices.Clone(parts)
			other[i] = longer(part) // of a name or a text that is another one, or none
			checkDecode(t, row(other))
			if part < "\x20" {
				refused(t, row(other))
			}
		}
	}
}

func TestP12_2DecodeOfOddEvents(t *testing.T) {
	bad := []string{"", "\x00", "\x80", "\x00\x80", "\x00\x01", "\x00\x01\x01", "\x00\x01\x01a", "\x00\x01\x01a\x01", "\x00\x01\x00\x00", "\x00\x01\x01A\x00", "\x00\x01\x01\xff\x00", "\x00\x80\x00", "\x80\x00\x00", "\x00\x11" + strings.Repeat("\x01a\x00", 17), "\x00\x01\x21" + strings.Repeat("n", 33) + "\x00", "\x00\x01\x01a\x81\x20" + xs(4097), "\x00\x02\x01a\x00", "\x00\x02\x01a\x00\x01B\x00", "\x00\x01\x01a\x02x", "\xff\xff\xff\xff\xff\xff\xff\xff\xff\x02\x00", "\x00\x00\x00"}
	for _, e := range bad {
		for _, ahead := range []int{0, 1, 7, 15, 16, 17, 31} {
			for _, behind := range []int{0, 1, 8, 15, 16} {
				l := many(ahead + 1 + behind)
				whole := plainEvent(l[ahead].E)
				g := plainTold(l)
				i := ahead / 16
				from := len(strings.Join(plainTold(l[i*16:ahead]).bodies, ""))
				if i > 0 && ahead%16 > 0 { // the number that is ahead of a block is that of one in another block
					from += len(number(2)) - len(number(l[i*16].Seq-1))
				}
				from += len(number(2))
				if g.bodies[i][from:from+len(whole)] != whole {
					t.Fatal("the event stands elsewhere")
				}
				g.bodies[i] = g.bodies[i][:from] + e + g.bodies[i][from+len(whole):]
				refused(t, g.bytes())
				g.sizes[i] = number(len(g.bodies[i]))
				refused(t, g.bytes())
			}
		}
	}
}

func TestP12_2DecodeOfTooGreatNumbers(t *testing.T) {
	gap := func(n int) string { return number(n) + "\x00\x00" }
	for _, c := range []struct {
		gaps []string
		last int
		ok   bool
	}{
		{[]string{gap(1<<40 - 1)}, 1 << 40, true}, {[]string{gap(1 << 40)}, 1<<40 + 1, false}, {[]string{gap(1 << 40)}, 1 << 40, false}, {[]string{gap(-1)}, 0, false}, {[]string{gap(-1), gap(0)}, 1, false}, {[]string{gap(-2), gap(1)}, 1, false},
		{[]string{gap(0), gap(1<<40 - 2)}, 1 << 40, true}, {[]string{gap(0), gap(1<<40 - 1)}, 1<<40 + 1, false}, {[]string{gap(1<<40 - 1), gap(0)}, 1<<40 + 1, false}, {[]string{gap(1<<40 - 1), gap(-1)}, 1 << 40, false}, {[]string{gap(1<<40 - 1), gap(-2)}, 1<<40 - 1, false},
		{[]string{gap(4), gap(-3), gap(4)}, 8, false}, {[]string{gap(4), gap(-1), gap(0)}, 6, false}, {[]string{gap(1<<62 - 1), gap(1<<62 - 1), gap(1<<62 - 1), gap(1<<62 + 4)}, 5, false}, {[]string{gap(1 << 40), gap(-1 << 40)}, 2, false},
	} {
		body := strings.Join(c.gaps, "")
		for _, last := range []int{c.last, numberOf(number(c.last))} {
			s := number(len(c.gaps)) + number(last) + number(len(body)) + body
			if checkDecode(t, s) != c.ok {
				t.Errorf("%x: %v", s, !c.ok)
			}
			if !c.ok {
				refused(t, s)
			}
		}
	}
}

func TestP12_2DecodeOfTurnedBytes(t *testing.T) {
	rows, all := 0, 0
	for _, g := range goodTold() {
		s := g.bytes()
		if len(s) > 300 {
			continue
		}
		for i := range len(s) {
			for _, c := range []byte{0, 1, 2, 3, 127, 128, 129, 255, s[i] + 1, s[i] - 1, s[i] ^ 128} {
				if checkDecode(t, s[:i]+string([]byte{c})+s[i+1:]) && c != s[i] {
					rows++
				}
				all++
			}
			checkDecode(t, s[:i]+s[i+1:])
			checkDecode(t, s[:i]+s[i:i+1]+s[i:])
			checkDecode(t, s[:i]+"\x00"+s[i:])
		}
	}
	if rows < 100 {
		t.Errorf("%d of %d are rows", rows, all)
	}
}

func TestP12_2DecodeOfRandomTurns(t *testing.T) {
	r := rand.New(rand.NewSource(5))
	rows := 0
	for i := range 8000 {
		l := randomRow(r, 1+i%40)
		if r.Intn(2) == 0 {
			l = turned(r, l)
		}
		b := []byte(plainBytes(l))
		for range r.Intn(3) {
			at := r.Intn(len(b))
			switch r.Intn(4) {
			case 0:
				b[at] = byte(r.Intn(256))
			case 1:
				b = append(b[:at], b[at+r.Intn(min(4, len(b)-at)+1):]...)
			case 2:
				b = slices.Insert(b, at, byte(r.Intn(256)))
			case 3:
				b[at]++
			}
			if len(b) == 0 {
				b = append(b, 0)
			}
		}
		if checkDecode(t, string(b)) {
			rows++
		}
	}
	if rows < 1500 || rows > 6000 {
		t.Errorf("%d are rows", rows)
	}
}
