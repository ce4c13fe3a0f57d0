package wal

import (
	"encoding/binary"
	"fmt"
	"hash/crc32"
	"math"
	"math/rand"
	"slices"
	"strings"
	"testing"

	"loggia/api"
	"loggia/disk"
)

// number is a number's bytes by the words of chapter 2.
func number(n int) string { return string(binary.AppendUvarint(nil, uint64(n))) }

// whole is the bytes of a whole number's zigzag.
func whole(n int) string { return string(binary.AppendVarint(nil, int64(n))) }

// text is a text's bytes.
func text(s string) string { return number(len(s)) + s }

// sumOf is the sum of a frame; the library makes it.
func sumOf(head, payload string) string {
	return string(binary.BigEndian.AppendUint32(nil, crc32.ChecksumIEEE([]byte(head+payload))))
}

// frameOf is a payload's frame by the words of chapter 4.
func frameOf(payload string) string {
	head := number(len(payload))
	return head + sumOf(head, payload) + payload
}

// bytesOf are a batch's bytes by the words of chapter 10, also of one that may not be.
func bytesOf(b api.Batch) string {
	s := number(b.Seq) + number(len(b.Events))
	for _, e := range b.Events {
		s += whole(e.At) + number(len(e.Fields))
		for _, f := range e.Fields {
			s += text(f.Name) + text(f.Text)
		}
	}
	return s
}

// logOf are the bytes of a log's file of batches, also of such as may not be.
func logOf(l ...api.Batch) string {
	s := ""
	for _, b := range l {
		s += frameOf(bytesOf(b))
	}
	return s
}

// plainName is a log's file's.
func plainName(n int) string { return fmt.Sprintf("log-%08d", n) }

// plainCheck is what is to be told of a batch, by the words of chapter 10.
func plainCheck(b api.Batch) api.Errno {
	if len(b.Events) == 0 {
		return 1
	}
	if len(b.Events) > 64 {
		return 3
	}
	sum := 0
	for _, e := range b.Events {
		if len(e.Fields) > 16 {
			return 3
		}
		sum += 16
		for _, f := range e.Fields {
			if len(f.Name) < 1 || len(f.Name) > 32 || strings.Trim(f.Name, "abcdefghijklmnopqrstuvwxyz0123456789_") != "" {
				return 100
			}
			if len(f.Text) > 4096 {
				return 2
			}
			sum += len(f.Name + f.Text)
		}
	}
	switch {
	case sum > 65536:
		return 2
	case b.Seq < 1, b.Seq > 1<<40, b.Seq+len(b.Events)-1 > 1<<40:
		return 5
	}
	return 0
}

// loose takes numbers and texts from bytes, told as long as one likes, and of any size; it takes no more than 70 fields or events, which is more than may be.
type loose struct {
	left string
	odd  bool
}

func (x *loose) number() uint64 {
	n, size := binary.Uvarint([]byte(x.left[:min(len(x.left), 10)]))
	if size <= 0 {
		x.odd, x.left = true, ""
		return 0
	}
	x.left = x.left[size:]
	return n
}

func (x *loose) text() string {
	n := x.number()
	if n > uint64(len(x.left)) {
		x.odd, x.left = true, ""
		return ""
	}
	s := x.left[:n]
	x.left = x.left[n:]
	return s
}

// plainBatch is the batch that has these bytes: what is read counts, if a batch that may be has just these.
func plainBatch(s string) (api.Batch, bool) {
	x := loose{left: s}
	b := api.Batch{Seq: int(min(x.number(), math.MaxInt64))}
	for range min(x.number(), 70) {
		z := x.number()
		e := api.Event{At: int(z / 2)}
		if z%2 == 1 {
			e.At = -1 - int(z/2)
		}
		for range min(x.number(), 70) {
			name := x.text()
			e.Fields = append(e.Fields, api.Field{Name: name, Text: x.text()})
		}
		b.Events = append(b.Events, e)
	}
	if x.odd || plainCheck(b) != 0 || bytesOf(b) != s {
		return api.Batch{}, false
	}
	return b, true
}

// plainFrame is what frame.Get is to answer, by the words of chapter 4: the payload, how many bytes its frame has, the error.
func plainFrame(s string) (payload string, size int, e api.Errno) {
	n, at := uint64(0), 0
	for done := false; !done; at++ {
		switch {
		case at == len(s):
			return "", 0, api.ErrTorn
		case at == 9 && s[at] > 1, at > 0 && s[at] == 0:
			return "", 0, api.ErrFrame
		}
		n += uint64(s[at]%128) << (7 * at)
		done = s[at] < 128
	}
	if n > 1<<24 {
		return "", 0, api.ErrFrame
	}
	end := at + 4 + int(n)
	if end > len(s) {
		return "", 0, api.ErrTorn
	}
	if payload = s[at+4 : end]; s[at:at+4] != sumOf(s[:at], payload) {
		return "", 0, api.ErrFrame
	}
	return payload, end, api.OK
}

// plainScan is what Scan is to answer, by the chapter's words.
func plainScan(s string) (l []api.Batch, n int, e api.Errno) {
	for n < len(s) {
		payload, size, e := plainFrame(s[n:])
		if e != api.OK {
			return l, n, e
		}
		b, ok := plainBatch(payload)
		if len(l) > 0 && b.Seq != nextOf(l) || !ok {
			return l, n, 150
		}
		l = append(l, b)
		n += size
	}
	return l, n, api.OK
}

// nextOf is the number behind the last of some batches.
func nextOf(l []api.Batch) int {
	b := l[len(l)-1]
	return b.Seq + len(b.Events)
}

// plainFiles are those of a disk, by names.
type plainFiles map[string]string

// numbers are those of logs' files, rising.
func (f plainFiles) numbers() []int {
	var l []int
	for name := range f {
		n := 0
		if len(name) == 12 {
			fmt.Sscanf(name, "log-%8d", &n)
		}
		if n >= 0 && name == plainName(n) {
			l = append(l, n)
		}
	}
	slices.Sort(l)
	return l
}

// replay is what Replay is to answer, by the chapter's words: what all files tell is put in one row, of which a beginning counts.
func (f plainFiles) replay(from, next int) (l []api.Batch, last int) {
	var told []api.Batch
	last = -1
	for _, n := range f.numbers() {
		if n >= from {
			some, _, _ := plainScan(f[plainName(n)])
			told = append(told, some...)
		}
		last = n
	}
	for _, b := range told {
		if b.Seq != next {
			break
		}
		l = append(l, b)
		next += len(b.Events)
	}
	return l, last
}

// diskOf is a disk that has files; all their bytes are durable.
func diskOf(t *testing.T, f plainFiles) *disk.Disk {
	t.Helper()
	d, e := disk.New(0)
	must(t, e, api.OK)
	for name, s := range f {
		must(t, d.Append(name, []byte(s)), api.OK)
		must(t, d.Sync(name), api.OK)
	}
	return d
}

// filesOf are a disk's files; of one that has stopped, too: those of a fork that goes on, and keeps all.
func filesOf(d *disk.Disk) plainFiles {
	k := d.Fork()
	k.Restart(slices.Repeat([]int{-1}, 1024)...)
	f := plainFiles{}
	for _, name := range k.List() {
		b, _ := k.Read(name, 0, math.MaxInt)
		f[name] = string(b)
	}
	return f
}

// hasFiles holds a disk's files against others.
func hasFiles(t *testing.T, d *disk.Disk, want plainFiles) {
	t.Helper()
	got := filesOf(d)
	for name, s := range want {
		if have, ok := got[name]; !ok || have != s {
			t.Fatalf("the file %q has %.100q (%v), not %.100q", name, have, ok, s)
		}
	}
	if len(got) != len(want) {
		t.Fatalf("there are %d files, not %d", len(got), len(want))
	}
}

// must holds an error against the one that is asked.
func must(t *testing.T, got, want api.Errno) {
	t.Helper()
	if got != want {
		t.Fatalf("%d, not %d", got, want)
	}
}

// sameBatches tells whether two rows of batches are the same.
func sameBatches(a, b []api.Batch) bool {
	return slices.EqualFunc(a, b, func(a, b api.Batch) bool {
		return a.Seq == b.Seq && slices.EqualFunc(a.Events, b.Events, func(a, b api.Event) bool {
			return a.At == b.At && slices.Equal(a.Fields, b.Fields)
		})
	})
}

// short is a row of batches for a message.
func short(l []api.Batch) string {
	return fmt.Sprintf("%d batches, %.300s", len(l), fmt.Sprint(l[:min(len(l), 5)]))
}

// xs is a text of so many bytes.
func xs(n int) string { return strings.Repeat("x", n) }

// of is an event at a time, with fields of names and texts, by turns.
func of(at int, l ...string) api.Event {
	e := api.Event{At: at}
	for i := 0; i+1 < len(l); i += 2 {
		e.Fields = append(e.Fields, api.Field{Name: l[i], Text: l[i+1]})
	}
	return e
}

// sized is an event of a size from 16 on, up to 16 times 4104 more.
func sized(n int) api.Event {
	var e api.Event
	for n -= 16; n > 0; {
		most := min(n, 8+4096)
		name := min(8, most)
		e.Fields = append(e.Fields, api.Field{Name: strings.Repeat("n", name), Text: xs(most - name)})
		n -= most
	}
	return e
}

// bare are n events of nothing but times.
func bare(n int) []api.Event {
	l := make([]api.Event, n)
	for i := range l {
		l[i].At = i
	}
	return l
}

// batch is a batch.
func batch(seq int, l ...api.Event) api.Batch { return api.Batch{Seq: seq, Events: l} }

// row is batches of so many events each, the first of which begins at seq, each other one behind the one ahead.
func row(seq int, counts ...int) []api.Batch {
	var l []api.Batch
	for _, n := range counts {
		var events []api.Event
		for i := range n {
			events = append(events, of(seq+i, "n", fmt.Sprint(seq+i)))
		}
		l = append(l, batch(seq, events...))
		seq += n
	}
	return l
}

// copyOf are batches like these, in other memory.
func copyOf(l []api.Batch) []api.Batch {
	var all []api.Batch
	for _, b := range l {
		c := api.Batch{Seq: b.Seq}
		for _, e := range b.Events {
			c.Events = append(c.Events, api.Event{At: e.At, Fields: append([]api.Field(nil), e.Fields...)})
		}
		all = append(all, c)
	}
	return all
}

// oddTimes are times at the ends, and others.
var oddTimes = []int{0, 1, -1, 63, -64, math.MaxInt32, math.MinInt32, math.MaxInt - 1, math.MaxInt, math.MinInt + 1, math.MinInt}

// randomEvent is an event that may be.
func randomEvent(r *rand.Rand) api.Event {
	e := api.Event{At: int(r.Uint64()) >> r.Intn(64)}
	if r.Intn(4) == 0 {
		e.At = oddTimes[r.Intn(len(oddTimes))]
	}
	for range r.Intn(4) {
		b := make([]byte, r.Intn(12))
		r.Read(b)
		e.Fields = append(e.Fields, api.Field{Name: []string{"a", "msg", "_", "n0", strings.Repeat("n", 32)}[r.Intn(5)], Text: string(b)})
	}
	return e
}

// randomRow is up to n batches, the first of which begins at seq, each other one behind the one ahead.
func randomRow(r *rand.Rand, seq, n int) []api.Batch {
	var l []api.Batch
	for range r.Intn(n + 1) {
		b := api.Batch{Seq: seq}
		for range 1 + r.Intn(1<<r.Intn(4)) {
			b.Events = append(b.Events, randomEvent(r))
		}
		seq += len(b.Events)
		l = append(l, b)
	}
	return l
}

// badBatch is a batch that may not be, and what is to be told of it.
type badBatch struct {
	b api.Batch
	x api.Errno
}

// badBatches are batches that may not be.
func badBatches() []badBatch {
	bad, none, long, lots := of(0, "A", ""), of(0, "", "x"), of(0, "a", xs(4097)), of(0, slices.Repeat([]string{"a", ""}, 17)...)
	return []badBatch{
		{api.Batch{}, 1}, {batch(1), 1}, {batch(-5), 1}, {api.Batch{Seq: 1, Events: []api.Event{}}, 1},
		{batch(1, bare(65)...), 3}, {batch(0, bare(65)...), 3}, {batch(1, slices.Repeat([]api.Event{bad}, 65)...), 3},
		{batch(1, bad), 100}, {batch(1, none), 100}, {batch(1, long), 2}, {batch(1, lots), 3}, {batch(1, of(0), bad, of(1)), 100}, {batch(0, bad), 100}, {batch(1<<41, long), 2},
		{batch(1, sized(65537)), 2}, {batch(1, sized(65536), of(0)), 2}, {batch(0, sized(65537)), 2},
		{batch(0, of(0)), 5}, {batch(-1, of(0)), 5}, {batch(math.MinInt, of(0)), 5}, {batch(1<<40+1, of(0)), 5}, {batch(1<<40, bare(2)...), 5}, {batch(math.MaxInt, bare(2)...), 5}, {batch(math.MaxInt, of(0)), 5},
	}
}

// goodRows are rows of batches that follow one another.
func goodRows() [][]api.Batch {
	l := [][]api.Batch{nil, row(1, 1), row(1, 64), row(7, 1, 1), row(1<<40, 1), row(1<<40-64, 1, 64), row(3, 2, 1, 64, 5, 1), row(127, 1, 1, 1), {batch(1, sized(65536)), batch(2, sized(65520), of(0)), batch(4, slices.Repeat([]api.Event{sized(1024)}, 64)...)}, {batch(9, of(0, slices.Repeat([]string{strings.Repeat("n", 32), ""}, 16)...), of(math.MinInt, "a", xs(4096)), of(math.MaxInt))}}
	r := rand.New(rand.NewSource(1))
	for range 60 {
		l = append(l, randomRow(r, 1+r.Intn(1<<(1+r.Intn(39))), 6))
	}
	return l
}
