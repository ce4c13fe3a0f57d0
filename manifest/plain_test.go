package manifest

import (
	"encoding/binary"
	"fmt"
	"hash/crc32"
	"math"
	"math/rand"
	"slices"
	"strings"
	"testing"

	"loggia/api"
	"loggia/disk"
)

// whole is the bytes of a whole number's zigzag, by the words of chapter 2.
func whole(l ...int) string {
	var b []byte
	for _, n := range l {
		b = binary.AppendVarint(b, int64(n))
	}
	return string(b)
}

// count is a number's bytes.
func count(n int) string { return string(binary.AppendUvarint(nil, uint64(n))) }

// summed is bytes, and behind them their sum; the library makes it.
func summed(s string) string {
	return string(binary.LittleEndian.AppendUint32([]byte(s), crc32.ChecksumIEEE([]byte(s))))
}

// plainBytes are a manifest's bytes by the chapter's words, also of one that may not be.
func plainBytes(m api.Manifest) string {
	s := string([]byte{76, 71, 77, 49}) + whole(m.Floor) + whole(m.Done) + whole(m.Log) + whole(m.Next) + whole(m.Now) + count(len(m.Parts))
	for _, p := range m.Parts {
		s += whole(p.ID) + whole(int(p.State)) + whole(p.Low) + whole(p.High) + whole(p.First) + whole(p.Last)
	}
	return summed(s)
}

// from tells whether a number is from one to another one.
func from(n, least, most int) bool { return least <= n && n <= most }

// plainPart tells whether a partition may be in a manifest, by the chapter's words.
func plainPart(p api.Part) bool {
	switch {
	case !from(p.ID, 1, 99999999), p.State != 2 && p.State != 3, p.Low > p.High:
		return false
	case p.First < 1, p.Last < p.First, p.Last > 1<<40:
		return false
	}
	return p.First+p.N == p.Last+1
}

// plainCheck is what Check is to answer, by the chapter's words.
func plainCheck(m api.Manifest) api.Errno {
	if len(m.Parts) > 512 {
		return 3
	}
	for i, p := range m.Parts {
		if !plainPart(p) || m.Next <= p.ID {
			return 160
		}
		if i > 0 && (m.Parts[i-1].ID >= p.ID || m.Parts[i-1].Last >= p.First) {
			return 160
		}
	}
	if n := len(m.Parts); n > 0 && m.Done < m.Parts[n-1].Last {
		return 160
	}
	if !from(m.Done, 0, 1<<40) || !from(m.Log, 1, 99999999) || !from(m.Next, 1, 99999999) {
		return 160
	}
	return 0
}

// plainSame tells whether two manifests are the same: whether they look so, their partitions one by one.
func plainSame(a, b api.Manifest) bool {
	l, k := a.Parts, b.Parts
	a.Parts, b.Parts = nil, nil
	if fmt.Sprintf("%#v", a) != fmt.Sprintf("%#v", b) || len(l) != len(k) {
		return false
	}
	for i := range l {
		if fmt.Sprintf("%#v", l[i]) != fmt.Sprintf("%#v", k[i]) {
			return false
		}
	}
	return true
}

// loose takes numbers from bytes, told as long as one likes.
type loose struct{ left string }

func (x *loose) number() uint64 {
	n, size := binary.Uvarint([]byte(x.left[:min(len(x.left), 10)]))
	x.left = x.left[max(size, 0):]
	return n
}

func (x *loose) whole() int {
	z := x.number()
	if z%2 == 1 {
		return -1 - int(z/2)
	}
	return int(z / 2)
}

// plainDecode is the manifest that has these bytes: what is read counts, if a manifest that may be has just these.
func plainDecode(s string) (api.Manifest, bool) {
	x := loose{s[min(len(s), 4):]}
	m := api.Manifest{Floor: x.whole(), Done: x.whole(), Log: x.whole(), Next: x.whole(), Now: x.whole()}
	for range min(x.number(), 600) {
		p := api.Part{ID: x.whole(), State: api.State(x.whole()), Low: x.whole(), High: x.whole(), First: x.whole(), Last: x.whole()}
		p.N = p.Last + 1 - p.First
		m.Parts = append(m.Parts, p)
	}
	if plainCheck(m) != 0 || plainBytes(m) != s {
		return api.Manifest{}, false
	}
	return m, true
}

// plainName is a name with a number; empty: it may not be.
func plainName(begin string, n int) string {
	if n < 1 || n > 99999999 {
		return ""
	}
	return fmt.Sprintf("%s-%08d", begin, n)
}

// plainFile is a partition's file's name.
func plainFile(p api.Part) string {
	switch p.State {
	case 2:
		return plainName("seg", p.ID)
	case 3:
		return plainName("ice", p.ID)
	}
	return ""
}

// plainLogOf is the number of a log's name.
func plainLogOf(name string) (int, bool) {
	if len(name) != 12 || name[:4] != "log-" {
		return 0, false
	}
	n := 0
	for _, c := range []byte(name[4:]) {
		if c < '0' || c > '9' {
			return 0, false
		}
		n = 10*n + int(c-'0')
	}
	return n, n > 0
}

// plainOrphans is what Orphans is to answer.
func plainOrphans(m api.Manifest, names ...string) []string {
	var l []string
	for _, name := range names {
		n, isLog := plainLogOf(name)
		switch {
		case name == "manifest.new", isLog && n < m.Log:
			l = append(l, name)
		case strings.HasPrefix(name, "seg-"), strings.HasPrefix(name, "ice-"):
			if !slices.ContainsFunc(m.Parts, func(p api.Part) bool { return plainFile(p) == name }) {
				l = append(l, name)
			}
		}
	}
	return l
}

// must holds an error against the one that is asked.
func must(t *testing.T, got, want api.Errno) {
	t.Helper()
	if got != want {
		t.Fatalf("%d, not %d", got, want)
	}
}

// short is a manifest for a message.
func short(m api.Manifest) string { return fmt.Sprintf("%.400s", fmt.Sprintf("%+v", m)) }

// same holds a manifest against the one that is asked.
func same(t *testing.T, got, want api.Manifest) {
	t.Helper()
	if !plainSame(got, want) {
		t.Fatalf("%s, not %s", short(got), short(want))
	}
}

// files are those of a disk, by names: of each the bytes that are durable, and the others.
type files map[string][2]string

// diskOf is a disk that has files.
func diskOf(t *testing.T, f files) *disk.Disk {
	t.Helper()
	d, e := disk.New(0)
	must(t, e, api.OK)
	for name, s := range f {
		must(t, d.Append(name, []byte(s[0])), api.OK)
		must(t, d.Sync(name), api.OK)
		must(t, d.Append(name, []byte(s[1])), api.OK)
	}
	return d
}

// filesOf are a disk's files; of one that has stopped, too: those of a fork that goes on, and keeps all.
func filesOf(d *disk.Disk) files {
	k := d.Fork()
	k.Restart(slices.Repeat([]int{-1}, 1024)...)
	f := files{}
	for _, name := range k.List() {
		b, _ := k.Read(name, 0, math.MaxInt)
		n := d.Durable(name)
		f[name] = [2]string{string(b[:n]), string(b[n:])}
	}
	return f
}

// hasFiles holds a disk's files against others.
func hasFiles(t *testing.T, d *disk.Disk, want files) {
	t.Helper()
	got := filesOf(d)
	for name, s := range want {
		if have, ok := got[name]; !ok || have != s {
			t.Fatalf("the file %q has %.100q (%v), not %.100q", name, have, ok, s)
		}
	}
	if len(got) != len(want) {
		t.Fatalf("there are %d files, not %d", len(got), len(want))
	}
}

// sealedPart is a Sealed partition.
func sealedPart(id, first, last int) api.Part {
	return api.Part{ID: id, State: api.Sealed, Low: -first, High: last, First: first, Last: last, N: last - first + 1}
}

// known is a manifest of three partitions.
func known() api.Manifest {
	return api.Manifest{
		Parts: []api.Part{sealedPart(2, 1, 4), {ID: 3, State: api.Frozen, Low: 9, High: 9, First: 6, Last: 6, N: 1}, {ID: 7, State: api.Sealed, Low: math.MinInt, High: math.MaxInt, First: 7, Last: 1<<16 + 6, N: 1 << 16}},
		Floor: -7, Done: 1<<16 + 9, Log: 12, Next: 9, Now: 300,
	}
}

// full is a manifest of n partitions of two events each; with 512 there are as many as may be.
func full(n int) api.Manifest {
	m := api.Manifest{Floor: 1, Done: 2 * n, Log: 1, Next: n + 1, Now: 5}
	for i := range n {
		m.Parts = append(m.Parts, sealedPart(1+i, 1+2*i, 2+2*i))
	}
	return m
}

// oddNumbers are numbers at the ends of what numbers may be, and others.
var oddNumbers = []int{0, 1, -1, 2, 3, 63, 64, -64, -65, 99999998, 99999999, 100000000, 1<<40 - 1, 1 << 40, 1<<40 + 1, 1 << 32, 1<<32 + 2, math.MaxInt - 1, math.MaxInt, math.MinInt + 1, math.MinInt}

// anyNumber is a number of any size.
func anyNumber(r *rand.Rand) int {
	if r.Intn(4) == 0 {
		return oddNumbers[r.Intn(len(oddNumbers))]
	}
	return int(r.Uint64()) >> r.Intn(64)
}

// step is from 1 on, mostly small.
func step(r *rand.Rand) int { return 1 + r.Intn(1<<r.Intn(20)) }

// random is a manifest that may be, of up to n partitions.
func random(r *rand.Rand, n int) api.Manifest {
	m := api.Manifest{Floor: anyNumber(r), Log: 1 + r.Intn(99999999), Now: anyNumber(r)}
	id, seq := 0, 0
	for range r.Intn(n + 1) {
		first := seq + step(r)
		seq = first + step(r) - 1
		id += 1 + r.Intn(1<<r.Intn(16))
		low, high := anyNumber(r), anyNumber(r)
		m.Parts = append(m.Parts, api.Part{ID: id, State: api.State(2 + r.Intn(2)), Low: min(low, high), High: max(low, high), First: first, Last: seq, N: seq - first + 1})
	}
	m.Done = seq + r.Intn(2)*step(r)
	m.Next = id + 1 + r.Intn(2)*step(r)
	return m
}

// copyOf is a manifest in other memory.
func copyOf(m api.Manifest) api.Manifest {
	m.Parts = append([]api.Part(nil), m.Parts...)
	return m
}

// numbersIn are the places of a manifest's numbers, in no certain order.
func numbersIn(m *api.Manifest) []*int {
	l := []*int{&m.Floor, &m.Done, &m.Log, &m.Next, &m.Now}
	for i := range m.Parts {
		p := &m.Parts[i]
		l = append(l, &p.ID, (*int)(&p.State), &p.Low, &p.High, &p.First, &p.Last, &p.N)
	}
	return l
}

// changed are manifests of which one number is another one, near it or odd; what they are may be or may not.
func changed(m api.Manifest) []api.Manifest {
	var l []api.Manifest
	for i := range numbersIn(&m) {
		was := *numbersIn(&m)[i]
		for _, n := range append([]int{was - 1, was + 1, -was, was + 1<<32, m.Done, m.Next, m.Log}, oddNumbers...) {
			k := copyOf(m)
			*numbersIn(&k)[i] = n
			l = append(l, k)
		}
	}
	return l
}
