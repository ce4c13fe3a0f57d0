package segment

import (
	"math"
	"math/rand"
	"slices"
	"strings"
	"testing"

	"loggia/api"
)

// refused says that Open must refuse bytes.
func refused(t *testing.T, s string) {
	t.Helper()
	b := []byte(s)
	if x, e := Open(b); x != nil || e != 130 {
		t.Fatalf("Open of %.200q (%d bytes): %v, %d", s, len(s), x != nil, e)
	}
	if string(b) != s {
		t.Fatal("Open changes what is handed in")
	}
}

// opened is the segment of these bytes.
func opened(t *testing.T, s string) *Segment {
	t.Helper()
	b := []byte(s)
	x, e := Open(b)
	if e != api.OK || x == nil || string(b) != s {
		t.Fatalf("Open of %.200q (%d bytes): %v, %d", s, len(s), x != nil, e)
	}
	return x
}

// checkOpen holds Open of (few) bytes against the chapter's words, and tells whether they are a segment's.
func checkOpen(t *testing.T, s string) bool {
	t.Helper()
	l, ok := plainOpen(s)
	if !ok {
		refused(t, s)
		return false
	}
	if x := opened(t, s); !plainSame(x.Docs(), l) {
		t.Fatalf("Open of %.200q: %s, not %s", s, short(x.Docs()), short(l))
	}
	return true
}

// refusedTurns says that Open must refuse what is told, if one turn of it makes other bytes.
func refusedTurns(t *testing.T, g told, turn func(g *told)) {
	t.Helper()
	other := g.copy()
	turn(&other)
	if s := other.bytes(); s != g.bytes() {
		refused(t, s)
	}
}

// longer is a number's bytes, told by one more than it needs.
func longer(s string) string {
	b := []byte(s)
	b[len(b)-1] |= 128
	return string(append(b, 0))
}

// wholeOf is the whole number that has these bytes.
func wholeOf(s string) int { return (&loose{left: s + "\x00"}).event().At }

func TestP13_1Open(t *testing.T) {
	for _, l := range goodRows() {
		if x := opened(t, plainBytes(l)); !plainSame(x.Docs(), l) {
			t.Fatalf("Open of %s: %s", short(l), short(x.Docs()))
		}
	}
	for _, l := range badRows() { // such as they would be, if they could be
		refused(t, plainBytes(l))
	}
}

func TestP13_1OpenOfShort(t *testing.T) {
	if x, e := Open(nil); x != nil || e != 130 {
		t.Error(x, e)
	}
	for _, s := range []string{"", "L", "LS", "LSE", "LSEG", "lseg", "GESL", "LSEGLSEG", "\x00", "\x00\x00\x00\x00", "LSEG\x00", "LSEG\x80", "LSEG" + strings.Repeat("\x00", 100), "LSEG" + strings.Repeat("\xff", 100), strings.Repeat("LSEG", 50)} {
		refused(t, s)
	}
	for i := range 1 << 16 {
		s := string([]byte{byte(i), byte(i >> 8)})
		refused(t, s)
		refused(t, "LSEG"+s)
	}
	for n := range 6 { // whole frames of nothing, and of short sections
		for _, section := range []string{"", "\x00", "\x01", exampleBytes} {
			refused(t, bytesOf(slices.Repeat([]string{section}, n)...))
		}
	}
}

func TestP13_1OpenOfBeginnings(t *testing.T) {
	for _, l := range smallRows() {
		s := plainBytes(l)
		for i := range s {
			refused(t, s[:i])
		}
		for i := range 256 {
			refused(t, s+string([]byte{byte(i)}))
		}
		for _, more := range []string{"\x00\xd2\x02\xef\x8d", "LSEG", s, s[4:], frameOf("\x00"), xs(70000)} {
			refused(t, s+more)
			refused(t, more+s)
		}
		refused(t, "\x00"+s)
		refused(t, s[1:])
		refused(t, s[4:])
	}
}

func TestP13_1OpenOfOtherBeginning(t *testing.T) {
	for _, l := range smallRows() {
		s := plainBytes(l)
		for i := range 4 {
			for c := range 256 {
				if byte(c) != s[i] {
					refused(t, s[:i]+string([]byte{byte(c)})+s[i+1:])
				}
			}
		}
	}
}

func TestP13_1OpenOfTurnedBytes(t *testing.T) {
	for _, l := range smallRows() {
		s := plainBytes(l)
		for i := range len(s) {
			for _, c := range []byte{0, 1, 128, 255, s[i] + 1, s[i] - 1, s[i] ^ 128} {
				if c != s[i] {
					refused(t, s[:i]+string([]byte{c})+s[i+1:])
				}
			}
			refused(t, s[:i]+s[i+1:])
			refused(t, s[:i]+"\x00"+s[i:])
		}
	}
}

// Within a section: each byte turned, left out and told twice, the frame made whole again.
func TestP13_1OpenOfTurnedSections(t *testing.T) {
	for _, l := range smallRows() {
		sections := plainTold(l).sections()
		for k, section := range sections {
			other := slices.Clone(sections)
			turned := func(s string) {
				other[k] = s
				checkOpen(t, bytesOf(other...))
			}
			for i := range len(section) {
				for _, c := range []byte{0, 1, 128, section[i] + 1, section[i] - 1, section[i] ^ 64} {
					turned(section[:i] + string([]byte{c}) + section[i+1:])
				}
				turned(section[:i] + section[i+1:])
				turned(section[:i] + section[i:i+1] + section[i:])
				turned(section[:i])
			}
			turned("")
			turned(section + "\x00")
			turned("\x00" + section)
			turned(section + section)
		}
	}
}

// Each section of another row's: a segment stands there only where the sections are the same.
func TestP13_1OpenOfMixed(t *testing.T) {
	rows := append(smallRows(), []api.Doc{doc(1, 0, "a", "-")}, []api.Doc{doc(2, 0)}, []api.Doc{doc(1, 1)}, bare(1, 5, 7), bare(2, 5, 6), timed(math.MinInt, math.MaxInt, 0), spoken("a b", "c d", "f e"), spoken("a b", "b a", "a b"), spoken("b a"), nil)
	same := 0
	for _, a := range rows {
		for _, b := range rows {
			one, other := plainTold(a).sections(), plainTold(b).sections()
			for k := range one {
				mixed := slices.Clone(one)
				mixed[k] = other[k]
				if checkOpen(t, bytesOf(mixed...)) {
					same++
				}
				for j := range k {
					mixed[j] = other[j]
				}
				checkOpen(t, bytesOf(mixed...))
			}
		}
	}
	if same < 6*len(rows) || same > 12*len(rows)*len(rows)/4 {
		t.Errorf("%d are segments", same)
	}
}

func TestP13_1OpenOfOtherDocs(t *testing.T) {
	good := 0
	for _, l := range smallRows() {
		g := plainTold(l)
		for i := range l {
			for k, turn := range []func(d *api.Doc){
				func(d *api.Doc) { d.Seq++ }, func(d *api.Doc) { d.Seq-- }, func(d *api.Doc) { d.E.At++ }, func(d *api.Doc) { d.E.Fields = append(d.E.Fields, api.Field{Name: "b", Text: "b"}) }, func(d *api.Doc) { d.E.Fields = nil }, func(d *api.Doc) { d.E = api.Event{At: 99} },
				func(d *api.Doc) { d.E.Fields = append(d.E.Fields, api.Field{Name: "b", Text: "-"}) }, // another row, but all else is the same
			} {
				other := copyOfAll(l)
				turn(&other[i])
				if plainSame(other, l) {
					continue
				}
				now := g.copy()
				now.docs = plainDocs(other)
				if checkOpen(t, now.bytes()) {
					good++
				} else if k == 6 {
					t.Fatalf("%s: refused", short(other))
				}
			}
		}
		for _, docs := range []string{longer(g.docs[:1]) + g.docs[1:], g.docs + "\x00", g.docs[:len(g.docs)-1], plainDocs(l[1:]), plainDocs(l[:len(l)-1]), plainDocs(append(copyOfAll(l), doc(1<<40, 0)))} {
			refusedTurns(t, g, func(g *told) { g.docs = docs })
		}
	}
	if good < 30 {
		t.Errorf("%d are segments", good)
	}
	g, other := plainTold(spoken("Disk full", "x")), spoken("disk, FULL!", " X")
	g.docs = plainDocs(other)
	if x := opened(t, g.bytes()); !plainSame(x.Docs(), other) {
		t.Error(x.Docs())
	}
}

func TestP13_1OpenOfNoDocs(t *testing.T) {
	refused(t, plainBytes(nil))
	g := plainTold(nil)
	refused(t, bytesOf(g.docs, "", "", "\x00", g.filter, ""))
	for _, l := range smallRows() {
		refusedTurns(t, plainTold(l), func(g *told) { g.docs = "\x00" })
		refusedTurns(t, plainTold(l), func(g *told) { g.docs = "" })
	}
}

func TestP13_1OpenOfOtherTimes(t *testing.T) {
	for _, l := range append(smallRows(), timed(math.MaxInt, math.MinInt, math.MaxInt), timed(5, 5)) {
		g := plainTold(l)
		for i, step := range g.times {
			n := wholeOf(step)
			for _, other := range []int{n + 1, n - 1, -n, -n - 1, l[i].E.At, n + 1<<32, n ^ math.MinInt, 0} {
				if other != n {
					refusedTurns(t, g, func(g *told) { g.times[i] = whole(other) })
				}
			}
			refusedTurns(t, g, func(g *told) { g.times[i] = longer(step) })
			refusedTurns(t, g, func(g *told) { g.times[i] = "" })
			refusedTurns(t, g, func(g *told) { g.times[i] += "\x00" })
			refusedTurns(t, g, func(g *told) { g.times[i] = "\x00" + step })
			refusedTurns(t, g, func(g *told) { g.times[i] = "\xff\xff\xff\xff\xff\xff\xff\xff\xff\x03" }) // above 64 bits
			for j := range i {
				refusedTurns(t, g, func(g *told) { g.times[i], g.times[j] = g.times[j], g.times[i] })
				refusedTurns(t, g, func(g *told) { // the docs behind have their times
					g.times[i], g.times[j] = whole(n+1), whole(wholeOf(g.times[j])-1)
				})
			}
		}
		refusedTurns(t, g, func(g *told) { g.times = nil })
		refusedTurns(t, g, func(g *told) { g.times = append(g.times, whole(0)) })
		refusedTurns(t, g, func(g *told) { g.times = append(g.times, "\x80") })
		refusedTurns(t, g, func(g *told) { g.times = g.times[:len(g.times)-1] })
	}
}

// placed tells of each row where it stands now.
func (t *told) placed() {
	off := 0
	for i, row := range t.rows {
		t.entries[i].Off, t.entries[i].Len = off, len(row)
		off += len(row)
	}
}

func TestP13_1OpenOfOtherRows(t *testing.T) {
	for _, l := range smallRows() {
		g := plainTold(l)
		for i, f := range plainFound(l) {
			turnPosts := func(turn func(p []api.Post) []api.Post) {
				refusedTurns(t, g, func(g *told) {
					p := slices.Clone(f.posts)
					for k := range p {
						p[k].Pos = slices.Clone(p[k].Pos)
					}
					p = turn(p)
					g.rows[i], g.entries[i].N = plainRow(p), len(p)
					g.placed()
				})
			}
			turnPosts(func(p []api.Post) []api.Post { p[0].Pos[0]++; return p })
			turnPosts(func(p []api.Post) []api.Post { p[len(p)-1].Doc++; return p })
			turnPosts(func(p []api.Post) []api.Post { p[0].Pos = append(p[0].Pos, 5000); return p })
			turnPosts(func(p []api.Post) []api.Post { return append(p, api.Post{Doc: p[len(p)-1].Doc + 1, Pos: []int{0}}) })
			turnPosts(func(p []api.Post) []api.Post { return p[1:] })
			turnPosts(func(p []api.Post) []api.Post { return p[:len(p)-1] })
			for _, other := range []string{"", "\x00", g.rows[i] + "\x00", "\x00" + g.rows[i], g.rows[i] + g.rows[i], longer(g.rows[i][:1]) + g.rows[i][1:]} {
				refusedTurns(t, g, func(g *told) { g.rows[i] = other })
				refusedTurns(t, g, func(g *told) { g.rows[i] = other; g.placed() })
			}
			refusedTurns(t, g, func(g *told) { // something stands ahead of the row, or behind, which nobody tells of
				g.rows[i] += "--"
				for k := i + 1; k < len(g.entries); k++ {
					g.entries[k].Off += 2
				}
			})
			for j := range i { // in another order, and each found
				refusedTurns(t, g, func(g *told) { g.rows[i], g.rows[j] = g.rows[j], g.rows[i] })
				refusedTurns(t, g, func(g *told) {
					g.rows[i], g.rows[j] = g.rows[j], g.rows[i]
					g.entries[i], g.entries[j] = g.entries[j], g.entries[i]
					g.placed()
					g.entries[i], g.entries[j] = g.entries[j], g.entries[i]
				})
			}
		}
		refusedTurns(t, g, func(g *told) { g.rows = nil })
		refusedTurns(t, g, func(g *told) { g.rows = append(g.rows, "\x00") })
		refusedTurns(t, g, func(g *told) { g.rows = append([]string{"-"}, g.rows...) })
		if len(l) > 1 && len(g.rows) > 0 {
			refusedTurns(t, g, func(g *told) { g.rows = plainTold(l[1:]).rows })
			refusedTurns(t, g, func(g *told) { other := plainTold(l[1:]); g.rows, g.entries = other.rows, other.entries })
		}
	}
	g := plainTold(spoken("a a", "b b")) // two rows that are alike stand once only, and both are told of
	g.rows[1] = ""
	g.entries[1].Off = 0
	refused(t, g.bytes())
	g = plainTold([]api.Doc{doc(1, 0, "a", "b", "c", "d")})
	g.rows, g.entries[1].Off = g.rows[:1], 0
	refused(t, g.bytes())
}

func TestP13_1OpenOfOtherDictionary(t *testing.T) {
	for _, l := range smallRows() {
		g := plainTold(l)
		for i, e := range g.entries {
			refusedTurns(t, g, func(g *told) { g.entries = slices.Delete(g.entries, i, i+1) })
			refusedTurns(t, g, func(g *told) { // also with its row gone
				g.entries, g.rows = slices.Delete(g.entries, i, i+1), slices.Delete(g.rows, i, i+1)
				g.placed()
			})
			for _, by := range []int{1, -1, 100, 1 << 26, -e.Off - 1, 1 << 40} {
				refusedTurns(t, g, func(g *told) { g.entries[i].Off += by })
				refusedTurns(t, g, func(g *told) { g.entries[i].Len += by })
				refusedTurns(t, g, func(g *told) { g.entries[i].N += by })
			}
			refusedTurns(t, g, func(g *told) { g.entries[i].Len = 0 })
			refusedTurns(t, g, func(g *told) { g.entries[i].N = 0 })
			for _, term := range []string{"", e.Term + "x", e.Term[:len(e.Term)-1], "A", "\xff", xs(65), xs(66)} {
				refusedTurns(t, g, func(g *told) { g.entries[i].Term = term })
				refusedTurns(t, g, func(g *told) { // one more, for the same row
					g.entries = slices.Insert(g.entries, i+1, api.Entry{Term: term, Off: e.Off, Len: e.Len, N: e.N})
				})
				refusedTurns(t, g, func(g *told) { // one more, with a row of its own
					g.entries = slices.Insert(g.entries, i+1, api.Entry{Term: e.Term + "\x00", N: e.N})
					g.rows = slices.Insert(g.rows, i+1, g.rows[i])
					g.placed()
				})
			}
			for j := range i {
				refusedTurns(t, g, func(g *told) { g.entries[i], g.entries[j] = g.entries[j], g.entries[i] })
				refusedTurns(t, g, func(g *told) { g.entries[i].Term, g.entries[j].Term = g.entries[j].Term, g.entries[i].Term })
			}
		}
		refusedTurns(t, g, func(g *told) { g.entries = append(g.entries, api.Entry{Term: "zz:zz"}) })
		refusedTurns(t, g, func(g *told) { g.entries = append([]api.Entry{{Term: "\x00"}}, g.entries...) })
		refusedTurns(t, g, func(g *told) { g.entries = nil })
		sections := g.sections() // numbers that are told too long, and blocks
		for _, dictionary := range []string{longer(sections[3][:1]) + sections[3][1:], sections[3] + "\x00", "", "\x00", strings.Replace(sections[3], "\x00", "\x80\x00", 1)} {
			if dictionary != sections[3] {
				other := slices.Clone(sections)
				other[3] = dictionary
				refused(t, bytesOf(other...))
			}
		}
	}
}

func TestP13_1OpenOfOtherFilter(t *testing.T) {
	for _, l := range smallRows() {
		g := plainTold(l)
		var terms []string
		for _, e := range g.entries {
			terms = append(terms, e.Term)
		}
		for k := range 8 * len(g.filter) {
			b := []byte(g.filter) // one bit more, or less
			b[k/8] ^= 1 << (k % 8)
			refusedTurns(t, g, func(g *told) { g.filter = string(b) })
		}
		m := 8 * len(g.filter)
		for _, bits := range []int{0, 8, 56, 64, m - 8, m + 8, 2 * m, 1 << 20, 1<<20 + 8} { // more bits, and fewer, with all terms there
			filter := ""
			if bits > 0 {
				filter = plainFilter(bits, terms...)
			}
			refusedTurns(t, g, func(g *told) { g.filter = filter })
		}
		refusedTurns(t, g, func(g *told) { g.filter = plainFilter(m) })
		refusedTurns(t, g, func(g *told) { g.filter = plainFilter(m, append(terms, "zz:zz")...) })
		refusedTurns(t, g, func(g *told) { g.filter = strings.Repeat("\xff", m/8) })
		refusedTurns(t, g, func(g *told) { g.filter += "\x00" })
		refusedTurns(t, g, func(g *told) { g.filter = g.filter[1:] })
		if len(terms) > 1 {
			refusedTurns(t, g, func(g *told) { g.filter = plainFilter(m, terms[1:]...) })
		}
	}
}

func TestP13_1OpenOfOtherFooter(t *testing.T) {
	for _, l := range smallRows() {
		g := plainTold(l)
		for i, was := range g.footer {
			n := wholeOf(was)
			for _, other := range []int{n + 1, n - 1, 0, -n, -n - 1, n + 16, n + 1<<32, n + 1<<41, n ^ math.MinInt, l[0].E.At, l[0].Seq, l[len(l)-1].Seq, len(l), math.MinInt, math.MaxInt} {
				refusedTurns(t, g, func(g *told) { g.footer[i] = whole(other) })
			}
			refusedTurns(t, g, func(g *told) { g.footer[i] = longer(g.footer[i]) })
			refusedTurns(t, g, func(g *told) { g.footer = slices.Delete(g.footer, i, i+1) })
			refusedTurns(t, g, func(g *told) { g.footer[i] += "\x00" })
			refusedTurns(t, g, func(g *told) { g.footer[i] = number(n) }) // not as its zigzag
			for j := range i {
				refusedTurns(t, g, func(g *told) { g.footer[i], g.footer[j] = g.footer[j], g.footer[i] })
			}
		}
		refusedTurns(t, g, func(g *told) { g.footer = append(g.footer, whole(0)) })
		refusedTurns(t, g, func(g *told) { g.footer = append(g.footer, g.footer[4]) })
		refusedTurns(t, g, func(g *told) { g.footer = append(g.footer, g.footer...) })
		refusedTurns(t, g, func(g *told) { g.footer = append(g.footer, "\x80") })
		refusedTurns(t, g, func(g *told) { g.footer = nil })
	}
}

func TestP13_1OpenOfOtherSections(t *testing.T) {
	for _, l := range smallRows() {
		sections := plainTold(l).sections()
		for i := range sections {
			for j := range i {
				other := slices.Clone(sections)
				other[i], other[j] = sections[j], sections[i]
				if sections[i] != sections[j] {
					refused(t, bytesOf(other...))
				}
			}
			refused(t, bytesOf(slices.Delete(slices.Clone(sections), i, i+1)...)) // five
			for _, more := range []string{sections[i], "", "\x00"} {              // seven
				refused(t, bytesOf(slices.Insert(slices.Clone(sections), i, more)...))
				refused(t, bytesOf(append(slices.Clone(sections), more)...))
			}
			refused(t, bytesOf(sections[:i]...))
			if i < 5 { // some in one frame
				refused(t, bytesOf(append(slices.Clone(sections[:i]), strings.Join(sections[i:], ""))...))
			}
			frames := []string{"LSEG"} // a frame's size told too long; its sum of another size
			wrong := []string{"LSEG"}
			for k, section := range sections {
				frame := frameOf(section)
				head := number(len(section))
				if k == i {
					frames = append(frames, longer(head)+frame[len(head):])
					wrong = append(wrong, head+"\x00\x00\x00\x00"+section)
					continue
				}
				frames, wrong = append(frames, frame), append(wrong, frame)
			}
			refused(t, strings.Join(frames, ""))
			refused(t, strings.Join(wrong, ""))
		}
		refused(t, bytesOf(append(slices.Clone(sections), sections...)...))
		refused(t, bytesOf(append(slices.Clone(sections), "")...))
		reversed := slices.Clone(sections)
		slices.Reverse(reversed)
		refused(t, bytesOf(reversed...))
	}
}

func TestP13_1OpenOfRandomTurns(t *testing.T) {
	r := rand.New(rand.NewSource(3))
	good := 0
	for i := range 6000 {
		l := randomRow(r, 1+i%30)
		if r.Intn(3) == 0 {
			l = turned(r, l)
		}
		sections := plainTold(l).sections()
		for range r.Intn(3) {
			k := r.Intn(6)
			b := []byte(sections[k])
			if len(b) == 0 {
				continue
			}
			at := r.Intn(len(b))
			switch r.Intn(4) {
			case 0:
				b[at] = byte(r.Intn(256))
			case 1:
				b = append(b[:at], b[at+r.Intn(min(4, len(b)-at)+1):]...)
			case 2:
				b = slices.Insert(b, at, byte(r.Intn(256)))
			case 3:
				b[at]++
			}
			sections[k] = string(b)
		}
		if checkOpen(t, bytesOf(sections...)) {
			good++
		}
	}
	if good < 1000 || good > 5000 {
		t.Errorf("%d are segments", good)
	}
}
