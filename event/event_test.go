package event

import (
	"math"
	"math/rand"
	"slices"
	"strings"
	"testing"

	"loggia/api"
)

// of is an event at a time, with fields of names and texts, by turns.
func of(at int, l ...string) api.Event {
	e := api.Event{At: at}
	for i := 0; i+1 < len(l); i += 2 {
		e.Fields = append(e.Fields, api.Field{Name: l[i], Text: l[i+1]})
	}
	return e
}

// many is an event with n fields that are alike.
func many(n int, name, text string) api.Event {
	return of(0, slices.Repeat([]string{name, text}, n)...)
}

// batch is a batch.
func batch(seq int, l ...api.Event) api.Batch { return api.Batch{Seq: seq, Events: l} }

// xs are n bytes.
func xs(n int) string { return strings.Repeat("x", n) }

// sized is an event that may be, of a size from 16 on, up to 16 times 4104 more.
func sized(n int) api.Event {
	var e api.Event
	for n -= 16; n > 0; {
		most := min(n, 8+4096)
		name := min(8, most)
		e.Fields = append(e.Fields, api.Field{Name: strings.Repeat("n", name), Text: xs(most - name)})
		n -= most
	}
	return e
}

// goodEvents are events that may be: at the ends, and others.
func goodEvents() []api.Event {
	l := []api.Event{
		{}, {Fields: []api.Field{}}, of(-3, "msg", "Disk full, disk", "host", "a"),
		of(0, "a", ""), of(1, "a", xs(4096)), of(2, "a", strings.Repeat("\xff", 4096)), of(3, strings.Repeat("n", 32), ""), of(4, "_", "\x00"),
		of(5, "a", "", "a", "", "a", ""), of(6, "a", "b", "a", "b"), of(7, "a", "x", "b", xs(127), "a", xs(128), "c", xs(129)),
		many(15, "a", ""), many(16, "a", ""), many(16, "a", "a a"), many(16, strings.Repeat("n", 32), xs(4096)), many(16, "a", strings.Repeat("a ", 2048)),
	}
	for _, at := range oddTimes {
		l = append(l, of(at), of(at, "at", "x"))
	}
	for _, name := range someNames {
		l = append(l, of(8, name, name))
	}
	return l
}

// badEvent is an event that may not be, and what is to be told of it.
type badEvent struct {
	e api.Event
	x api.Errno
}

// badEvents are events that may not be.
func badEvents() []badEvent {
	long, good := api.Field{Name: "a", Text: xs(4097)}, api.Field{Name: "b", Text: "c"}
	bad, both := api.Field{Name: "A", Text: "b"}, api.Field{Name: "", Text: xs(5000)}
	l := []badEvent{
		{many(17, "a", ""), api.ErrMany}, {many(18, "a", "b"), api.ErrMany}, {many(1000, "a", ""), api.ErrMany},
		{many(17, "A", ""), api.ErrMany}, {many(17, "a", xs(4097)), api.ErrMany}, {api.Event{Fields: make([]api.Field, 17)}, api.ErrMany}, // how many they are comes first
		{many(16, "A", ""), api.ErrEvent}, {many(16, "a", xs(4097)), api.ErrLong}, {api.Event{Fields: make([]api.Field, 16)}, api.ErrEvent}, {api.Event{Fields: make([]api.Field, 1)}, api.ErrEvent},
		{of(0, "a", xs(4097)), api.ErrLong}, {of(0, "a", xs(4098)), api.ErrLong}, {of(0, "a", xs(1<<17)), api.ErrLong}, {of(0, "a", strings.Repeat("é", 2049)), api.ErrLong},
		{api.Event{Fields: []api.Field{both}}, api.ErrEvent},                                                                  // in the same field the name comes first
		{api.Event{Fields: []api.Field{bad, long}}, api.ErrEvent}, {api.Event{Fields: []api.Field{both, long}}, api.ErrEvent}, // it is in an earlier field
		{api.Event{Fields: []api.Field{long, bad}}, api.ErrLong}, {api.Event{Fields: []api.Field{long, both}}, api.ErrLong}, // in a later one
		{api.Event{Fields: []api.Field{good, good, bad, good, long}}, api.ErrEvent}, {api.Event{Fields: []api.Field{good, long, good, bad}}, api.ErrLong},
		{api.Event{Fields: append(many(15, "a", "").Fields, bad)}, api.ErrEvent}, {api.Event{Fields: append(many(15, "a", "").Fields, long)}, api.ErrLong},
	}
	for _, name := range badNames {
		l = append(l, badEvent{of(0, name, "x"), api.ErrEvent})
	}
	return l
}

func TestP10_1Name(t *testing.T) {
	for _, s := range someNames {
		if !Name(s) {
			t.Errorf("Name of %q: false", s)
		}
	}
	for _, s := range badNames {
		if Name(s) {
			t.Errorf("Name of %q: true", s)
		}
	}
	for i := range 256 {
		for _, s := range []string{string([]byte{byte(i)}), "a" + string([]byte{byte(i)}), string([]byte{byte(i)}) + "0", "_" + string([]byte{byte(i)}) + "z"} {
			if Name(s) != plainName(s) {
				t.Errorf("Name of %q: %v", s, Name(s))
			}
		}
	}
	for n := range 70 {
		if Name(strings.Repeat("q", n)) != (n >= 1 && n <= 32) {
			t.Errorf("Name of %d bytes: %v", n, Name(strings.Repeat("q", n)))
		}
	}
}

func TestP10_1Check(t *testing.T) {
	for _, e := range goodEvents() {
		if x := Check(e); x != api.OK || plainCheck(e) != 0 {
			t.Errorf("Check of %.80v: %d", e, x)
		}
	}
	for i, c := range badEvents() {
		if x := Check(c.e); x != c.x || plainCheck(c.e) != c.x {
			t.Errorf("Check of the bad event %d, %.80v: %d, not %d", i, c.e, x, c.x)
		}
	}
	for n := range 40 {
		want := api.OK
		if n > 16 {
			want = api.ErrMany
		}
		if x := Check(many(n, "f", "t")); x != want {
			t.Errorf("Check of %d fields: %d", n, x)
		}
	}
}

func TestP10_1CheckOfTurned(t *testing.T) {
	r := rand.New(rand.NewSource(1))
	told := map[api.Errno]int{}
	for range 20000 {
		e := randomEvent(r)
		for range r.Intn(4) {
			e = turned(r, e)
		}
		was := copyOf(e)
		x := Check(e)
		if x != plainCheck(e) {
			t.Fatalf("Check of %.200q: %d, not %d", e.Fields, x, plainCheck(e))
		}
		if !plainSame(e, was) {
			t.Fatalf("Check changes what is handed in: %.200q", e.Fields)
		}
		told[x]++
	}
	for _, x := range []api.Errno{api.OK, api.ErrMany, api.ErrEvent, api.ErrLong} {
		if told[x] < 500 {
			t.Errorf("%d is told %d times", x, told[x])
		}
	}
}

func TestP10_1Size(t *testing.T) {
	for _, c := range []struct {
		e    api.Event
		size int
	}{
		{api.Event{}, 16}, {of(math.MinInt), 16}, {of(0, "a", ""), 17}, {of(0, "", ""), 16}, {of(0, "", "b"), 17}, {of(0, "a", "é"), 19}, {of(-3, "msg", "Disk full, disk", "host", "a"), 16 + 3 + 15 + 4 + 1},
		{of(0, "A b", "x"), 20}, {of(0, "a", xs(4097)), 16 + 1 + 4097}, {of(0, strings.Repeat("n", 33), ""), 49}, {many(17, "a", "b"), 16 + 34}, {many(1000, "", "abc"), 3016}, {of(0, "a", "b", "a", "b"), 20}, // of any event
	} {
		if n := Size(c.e); n != c.size {
			t.Errorf("Size of %.80v: %d, not %d", c.e, n, c.size)
		}
	}
	r := rand.New(rand.NewSource(2))
	for range 2000 {
		e := turned(r, randomEvent(r))
		if Size(e) != plainSize(e) {
			t.Fatalf("Size of %.80v: %d, not %d", e, Size(e), plainSize(e))
		}
	}
}

func TestP10_1Same(t *testing.T) {
	e := of(1, "a", "b", "c", "d")
	for _, other := range []api.Event{
		of(2, "a", "b", "c", "d"), of(-1, "a", "b", "c", "d"), {At: 1}, of(1, "a", "b"), of(1, "c", "d"), of(1, "a", "b", "c", "d", "", ""), of(1, "a", "b", "c", "d", "c", "d"),
		of(1, "x", "b", "c", "d"), of(1, "a", "x", "c", "d"), of(1, "a", "b", "x", "d"), of(1, "a", "b", "c", "x"), of(1, "a", "b", "c", "D"), of(1, "a", "b", "c", ""), of(1, "a", "b", "c", "d "),
		of(1, "c", "d", "a", "b"), of(1, "ab", "", "c", "d"), of(1, "a", "b", "cd", ""), of(1, "a", "bc", "", "d"), of(1, "b", "a", "d", "c"),
	} {
		if Same(e, other) || Same(other, e) {
			t.Errorf("Same of %v and %v", e, other)
		}
	}
	if !Same(e, e) || !Same(e, copyOf(e)) {
		t.Error("an event is not the same as itself")
	}
	none := api.Event{At: 5, Fields: []api.Field{}}
	if !Same(none, of(5)) || !Same(of(5), none) || !Same(none, none) || !Same(api.Event{}, api.Event{}) {
		t.Error("fields that are nil and such as are none are not the same")
	}
	if Same(of(5), of(5, "", "")) || Same(of(5, "", ""), none) || Same(of(math.MinInt), of(math.MaxInt)) {
		t.Error("a field without name and text counts as none")
	}
	bad := of(0, "A b", xs(9000))
	if !Same(bad, copyOf(bad)) || !Same(many(50, "", ""), many(50, "", "")) || Same(many(50, "", ""), many(51, "", "")) {
		t.Error("events that may not be") // they are the same, or not, as others are
	}
}

func TestP10_1SameOfTurned(t *testing.T) {
	r := rand.New(rand.NewSource(3))
	for range 5000 {
		a := randomEvent(r)
		b := copyOf(a)
		if !Same(a, b) {
			t.Fatalf("not the same: %.200q", a.Fields)
		}
		if r.Intn(2) == 0 {
			b.At += r.Intn(2)
		}
		if r.Intn(2) == 0 {
			b = turned(r, b)
		}
		if Same(a, b) != plainSame(a, b) || Same(b, a) != plainSame(a, b) {
			t.Fatalf("Same of %.200q and %.200q: %v", a.Fields, b.Fields, Same(a, b))
		}
	}
}

// goodBatches are batches that may be: at the ends, and others.
func goodBatches() []api.Batch {
	l := []api.Batch{
		batch(1, of(0)), batch(7, of(-3, "msg", "Disk full, disk", "host", "a"), of(1)), batch(1, make([]api.Event, 64)...), batch(1, make([]api.Event, 63)...),
		batch(1<<40, of(0)), batch(1<<40-1, of(0)), batch(1<<40-1, of(0), of(1)), batch(1<<40-63, make([]api.Event, 64)...), batch(127, of(0)), batch(128, of(0)), batch(1<<40-2, of(0)),
		batch(1, sized(65536)), batch(1, sized(65535)), batch(2, sized(32768), sized(32768)), batch(3, slices.Repeat([]api.Event{sized(1024)}, 64)...), batch(4, sized(16), sized(65520)),
		batch(5, goodEvents()[1:7]...), batch(6, of(math.MinInt), of(math.MaxInt), of(math.MinInt)),
	}
	r := rand.New(rand.NewSource(4))
	for i := range 300 {
		l = append(l, randomBatch(r, 1+i%64))
	}
	return l
}

// badBatch is a batch that may not be, and what is to be told of it.
type badBatch struct {
	b api.Batch
	x api.Errno
}

// badBatches are batches that may not be.
func badBatches() []badBatch {
	bad, long, lots := of(0, "A", ""), of(0, "a", xs(4097)), many(17, "a", "")
	return []badBatch{
		{api.Batch{}, api.ErrArg}, {batch(1), api.ErrArg}, {api.Batch{Seq: 1, Events: []api.Event{}}, api.ErrArg}, {batch(-1), api.ErrArg}, {batch(1 << 50), api.ErrArg},
		{batch(1, make([]api.Event, 65)...), api.ErrMany}, {batch(1, make([]api.Event, 1000)...), api.ErrMany}, {batch(0, make([]api.Event, 65)...), api.ErrMany}, {batch(1, slices.Repeat([]api.Event{bad}, 65)...), api.ErrMany}, {batch(1, slices.Repeat([]api.Event{sized(4000)}, 65)...), api.ErrMany},
		{batch(1, bad), api.ErrEvent}, {batch(1, long), api.ErrLong}, {batch(1, lots), api.ErrMany},
		{batch(1, of(0), bad, of(1)), api.ErrEvent}, {batch(1, of(0), long, of(1)), api.ErrLong}, {batch(1, of(0), lots, of(1)), api.ErrMany}, // in the middle
		{batch(1, of(0), bad, long, lots), api.ErrEvent}, {batch(1, of(0), long, bad, lots), api.ErrLong}, {batch(1, lots, bad, long), api.ErrMany}, {batch(1, of(0), of(1), bad), api.ErrEvent}, // the first one
		{batch(0, bad), api.ErrEvent}, {batch(0, lots), api.ErrMany}, {batch(1<<41, long), api.ErrLong}, {batch(1, sized(65536), of(0), bad), api.ErrEvent}, {batch(1, sized(60000), sized(60000), lots), api.ErrMany}, {batch(0, sized(65537), bad), api.ErrEvent}, // ahead of sizes and numbers
		{batch(1, append(make([]api.Event, 63), bad)...), api.ErrEvent},
		{batch(1, sized(65537)), api.ErrLong}, {batch(1, sized(65536), of(0)), api.ErrLong}, {batch(1, sized(32768), sized(32769)), api.ErrLong}, {batch(1, append(slices.Repeat([]api.Event{sized(1024)}, 63), sized(1025))...), api.ErrLong}, {batch(1, slices.Repeat([]api.Event{sized(4000)}, 64)...), api.ErrLong}, {batch(1, many(16, strings.Repeat("n", 32), xs(4096))), api.ErrLong},
		{batch(0, sized(65537)), api.ErrLong}, {batch(-1, sized(65537)), api.ErrLong}, {batch(1<<40+1, sized(65537)), api.ErrLong}, // ahead of numbers
		{batch(0, of(0)), api.ErrRange}, {batch(-1, of(0)), api.ErrRange}, {batch(-1, of(0), of(1), of(2)), api.ErrRange}, {batch(0, of(0), of(1)), api.ErrRange}, {batch(math.MinInt, of(0)), api.ErrRange}, {batch(math.MinInt, make([]api.Event, 64)...), api.ErrRange}, {batch(-1<<40, of(0)), api.ErrRange},
		{batch(1<<40+1, of(0)), api.ErrRange}, {batch(1<<40, of(0), of(1)), api.ErrRange}, {batch(1<<40-1, of(0), of(1), of(2)), api.ErrRange}, {batch(1<<40-62, make([]api.Event, 64)...), api.ErrRange}, {batch(1<<41, of(0)), api.ErrRange}, {batch(1<<62, of(0)), api.ErrRange},
		{batch(math.MaxInt, of(0)), api.ErrRange}, {batch(math.MaxInt, of(0), of(1)), api.ErrRange}, {batch(math.MaxInt, make([]api.Event, 64)...), api.ErrRange}, {batch(math.MaxInt-1, make([]api.Event, 3)...), api.ErrRange}, {batch(math.MaxInt-62, make([]api.Event, 64)...), api.ErrRange}, // the last number goes round in an int
	}
}

func TestP10_2CheckBatch(t *testing.T) {
	for _, b := range goodBatches() {
		was := copyOfAll(b)
		if x := CheckBatch(b); x != api.OK || plainCheckBatch(b) != 0 {
			t.Errorf("CheckBatch of %d events from %d on: %d", len(b.Events), b.Seq, x)
		}
		if b.Seq != was.Seq || !sameAll(b.Events, was.Events) {
			t.Errorf("CheckBatch changes what is handed in: %.200v", was)
		}
	}
	for i, c := range badBatches() {
		if x := CheckBatch(c.b); x != c.x || plainCheckBatch(c.b) != c.x {
			t.Errorf("CheckBatch of the bad batch %d, %.80v: %d, not %d", i, c.b, x, c.x)
		}
	}
}

func TestP10_2CheckBatchOfTurned(t *testing.T) {
	r := rand.New(rand.NewSource(5))
	told := map[api.Errno]int{}
	for i := range 4000 {
		b := randomBatch(r, 1+i%64)
		for range r.Intn(3) {
			j := r.Intn(len(b.Events))
			switch r.Intn(5) {
			case 0:
				b.Seq = []int{0, -1, 1 << 40, 1<<40 + 1, math.MaxInt, math.MinInt, 1<<40 - len(b.Events), 1<<40 - len(b.Events) + 1, 1<<40 - len(b.Events) + 2}[r.Intn(9)]
			case 1:
				b.Events[j] = turned(r, b.Events[j])
			case 2:
				b.Events[j] = sized(16 + r.Intn(65521))
			case 3:
				b.Events = slices.Repeat(b.Events, 1+r.Intn(8))
			case 4:
				b.Events[j] = sized(min(65536, max(16, 65536-sizeOf(b)+plainSize(b.Events[j])+r.Intn(3)-1))) // about the most
			}
		}
		x := CheckBatch(b)
		if x != plainCheckBatch(b) {
			t.Fatalf("CheckBatch of %d events from %d on: %d, not %d", len(b.Events), b.Seq, x, plainCheckBatch(b))
		}
		told[x]++
	}
	for _, x := range []api.Errno{api.OK, api.ErrMany, api.ErrEvent, api.ErrLong, api.ErrRange} {
		if told[x] < 100 {
			t.Errorf("%d is told %d times", x, told[x])
		}
	}
}

// sizeOf is the sizes of a batch's events together.
func sizeOf(b api.Batch) int {
	n := 0
	for _, e := range b.Events {
		n += plainSize(e)
	}
	return n
}

func TestP10_2Docs(t *testing.T) {
	for _, b := range goodBatches() {
		docs := Docs(b)
		if len(docs) != len(b.Events) {
			t.Fatalf("Docs of %d events: %d", len(b.Events), len(docs))
		}
		for i, d := range docs {
			if d.Seq != b.Seq+i || !plainSame(d.E, b.Events[i]) {
				t.Fatalf("Docs of %d events from %d on: %d at %d, %.80v", len(docs), b.Seq, d.Seq, i, d.E)
			}
		}
	}
	for i, c := range badBatches() {
		if docs := Docs(c.b); len(docs) != 0 {
			t.Errorf("Docs of the bad batch %d: %d", i, len(docs))
		}
	}
}

func TestP10_2DocsAreNewMemory(t *testing.T) {
	fields := append(make([]api.Field, 0, 8), api.Field{Name: "a", Text: "b"}, api.Field{Name: "c", Text: "d"})
	b := batch(3, api.Event{At: 1, Fields: fields}, api.Event{At: 1, Fields: fields}, api.Event{At: 1, Fields: fields[:1]}) // one memory
	docs, other := Docs(b), Docs(b)
	docs[0].E.Fields[0].Text = "turned"
	docs[1].E.Fields[1].Name = "turned"
	docs[2].E.Fields = append(docs[2].E.Fields, api.Field{Name: "more"})
	if !sameAll(b.Events, []api.Event{of(1, "a", "b", "c", "d"), of(1, "a", "b", "c", "d"), of(1, "a", "b")}) {
		t.Error("a turned doc turns what was handed in: ", b)
	}
	if !plainSame(docs[0].E, of(1, "a", "turned", "c", "d")) || !plainSame(docs[1].E, of(1, "a", "b", "turned", "d")) {
		t.Error("docs share memory: ", docs)
	}
	fields[0].Name, b.Events[1] = "z", of(9)
	for i, want := range []api.Event{of(1, "a", "b", "c", "d"), of(1, "a", "b", "c", "d"), of(1, "a", "b")} {
		if other[i].Seq != 3+i || !plainSame(other[i].E, want) {
			t.Error("what was handed in turns a doc: ", other)
		}
	}
}
