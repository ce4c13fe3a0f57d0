package wal

import (
	"math"
	"math/rand"
	"slices"
	"testing"

	"loggia/api"
	"loggia/disk"
)

// opened is a writer of a file.
func opened(t *testing.T, d *disk.Disk, n int) *Writer {
	t.Helper()
	w, e := Open(d, n)
	if w == nil || e != api.OK {
		t.Fatalf("Open of %d: %v, %d", n, w, e)
	}
	return w
}

func TestP15_3Open(t *testing.T) {
	for _, f := range []plainFiles{{}, {"log-00000007": "", "log-00000001": logOf(row(1, 1)...), "a": "b"}} {
		d := diskOf(t, f)
		d.Arm(1)
		for _, n := range []int{0, 1, 2, 7, 12345678, 99999998, 99999999} {
			w := opened(t, d, n)
			if w.Number() != n || w.Size() != len(f[plainName(n)]) {
				t.Errorf("%d: %d, %d", n, w.Number(), w.Size())
			}
		}
		for _, n := range []int{-1, -2, -99999999, 100000000, 100000001, 1 << 32, math.MaxInt, math.MinInt} {
			if w, e := Open(d, n); w != nil || e != api.ErrArg {
				t.Errorf("Open of %d: %v, %d", n, w, e)
			}
		}
		hasFiles(t, d, f)
		if d.Stopped() {
			t.Error("Open does something")
		}
	}
}

// A writer may be made while the disk has stopped: nothing is done yet.
func TestP15_3OpenOfStopped(t *testing.T) {
	d := diskOf(t, nil)
	d.Arm(1)
	must(t, d.Append("a", nil), api.ErrCrash)
	w := opened(t, d, 7)
	if _, e := Open(d, -1); e != api.ErrArg || w.Number() != 7 || w.Size() != 0 {
		t.Error(e, w.Number(), w.Size())
	}
	must(t, w.Append(row(1, 1)...), api.ErrCrash)
	d.Restart()
	hasFiles(t, d, nil)
	must(t, w.Append(row(1, 1)...), api.OK)
	hasFiles(t, d, plainFiles{"log-00000007": logOf(row(1, 1)...)})
}

func TestP15_3Append(t *testing.T) {
	for _, l := range goodRows() {
		d := diskOf(t, plainFiles{"a": "b"})
		w := opened(t, d, 9)
		all := ""
		for i := range l {
			must(t, w.Append(l[i]), api.OK)
			all += logOf(l[i])
			hasFiles(t, d, plainFiles{"a": "b", "log-00000009": all})
			if w.Size() != len(all) || w.Number() != 9 {
				t.Fatal(w.Size(), w.Number())
			}
		}
		once := diskOf(t, nil)
		v := opened(t, once, 0)
		must(t, v.Append(l...), api.OK)
		if len(l) > 0 {
			hasFiles(t, once, plainFiles{"log-00000000": all})
		}
		if v.Size() != len(all) || once.Durable("log-00000000") != 0 {
			t.Fatal(v.Size())
		}
	}
}

// Batches need not follow one another: Append does not ask.
func TestP15_3AppendAny(t *testing.T) {
	l := []api.Batch{batch(5, of(0)), batch(5, of(1)), batch(1, bare(3)...), batch(1<<40, of(0)), batch(2, of(0))}
	d := diskOf(t, plainFiles{"log-00000001": "odd"})
	w := opened(t, d, 1)
	must(t, w.Append(l...), api.OK)
	must(t, w.Append(l[1:]...), api.OK)
	hasFiles(t, d, plainFiles{"log-00000001": "odd" + logOf(l...) + logOf(l[1:]...)})
}

// All batches of a call are one writing call of the disk.
func TestP15_3AppendAtOnce(t *testing.T) {
	l := row(1, 1, 2, 3, 4, 5)
	d := diskOf(t, nil)
	w := opened(t, d, 2)
	d.Arm(3)
	must(t, w.Append(l...), api.OK)
	must(t, w.Append(row(16, 1)...), api.OK)
	must(t, w.Append(row(17, 1, 1)...), api.ErrCrash)
	must(t, w.Append(row(17, 1, 1)...), api.ErrCrash)
	hasFiles(t, d, plainFiles{"log-00000002": logOf(l...) + logOf(row(16, 1)...)})
	d.Restart(len(logOf(l...)) + 3)
	hasFiles(t, d, plainFiles{"log-00000002": logOf(l...) + logOf(row(16, 1)...)[:3]})
}

// Of a batch that may not be, wherever it stands, nothing is done, nor asked of the disk.
func TestP15_3AppendBad(t *testing.T) {
	for _, c := range badBatches() {
		for at := range 4 {
			for _, other := range []badBatch{{}, {batch(1), 1}, {batch(0, of(0)), 5}} {
				l := slices.Insert(row(1, 1, 2, 1), at, c.b)
				if other.x != 0 {
					l = append(l, other.b) // the first one's error is told
				}
				f := plainFiles{"log-00000003": "x"}
				d := diskOf(t, f)
				w, v := opened(t, d, 3), opened(t, d, 4)
				d.Arm(1)
				for range 2 {
					must(t, w.Append(l...), c.x)
					must(t, v.Append(l...), c.x)
				}
				hasFiles(t, d, f)
				if d.Stopped() {
					t.Fatal("the disk was asked")
				}
				must(t, w.Append(row(1, 1)...), api.ErrCrash)
				must(t, w.Append(l...), c.x) // also of a disk that has stopped
				hasFiles(t, d, f)
			}
		}
	}
}

func TestP15_3AppendNone(t *testing.T) {
	d := diskOf(t, nil)
	w := opened(t, d, 3)
	d.Arm(1)
	must(t, w.Append(), api.OK)
	must(t, w.Append([]api.Batch{}...), api.OK)
	hasFiles(t, d, nil)
	if d.Stopped() || w.Size() != 0 {
		t.Fatal("something is done")
	}
	must(t, w.Append(row(1, 1)...), api.ErrCrash)
	must(t, w.Append(), api.OK) // the disk is not asked
	hasFiles(t, d, nil)
}

func TestP15_3AppendNoRoom(t *testing.T) {
	l := row(1, 2, 3)
	size := len(logOf(l...))
	d, e := disk.New(2*size - 1)
	must(t, e, api.OK)
	w := opened(t, d, 1)
	must(t, w.Append(l...), api.OK)
	for range 2 {
		must(t, w.Append(l...), api.ErrFull)
		must(t, opened(t, d, 2).Append(l...), api.ErrFull)
		hasFiles(t, d, plainFiles{"log-00000001": logOf(l...)})
	}
	must(t, w.Append(l[:1]...), api.OK)
	hasFiles(t, d, plainFiles{"log-00000001": logOf(l[0], l[1], l[0])})

	d = diskOf(t, nil)
	for i := range 1024 {
		must(t, d.Append(plainName(i), nil), api.OK)
	}
	must(t, opened(t, d, 1024).Append(l...), api.ErrMany)
	must(t, opened(t, d, 1023).Append(l...), api.OK)
	if k := Logs(d); len(k) != 1024 || k[1023] != 1023 {
		t.Error(len(k))
	}
}

func TestP15_3AppendToTheMost(t *testing.T) {
	l := row(1, 1)
	size := len(logOf(l...))
	for _, c := range []struct {
		left int
		e    api.Errno
	}{{size, api.OK}, {size - 1, api.ErrLong}, {0, api.ErrLong}} {
		d := diskOf(t, nil)
		w := opened(t, d, 5)
		must(t, d.Append("log-00000005", make([]byte, 1<<26-c.left)), api.OK)
		must(t, w.Append(l...), c.e)
		want := 1<<26 - c.left
		if c.e == api.OK {
			want = 1 << 26
		}
		if w.Size() != want {
			t.Error(w.Size())
		}
	}
	all := make([]api.Batch, 0, 1030)
	for i := range 1030 {
		all = append(all, batch(1+i, sized(65536)))
	}
	d := diskOf(t, nil)
	must(t, opened(t, d, 5).Append(all...), api.ErrLong)
	hasFiles(t, d, nil)
}

func TestP15_3Sync(t *testing.T) {
	d := diskOf(t, plainFiles{"a": ""})
	must(t, d.Append("a", []byte("not durable")), api.OK)
	w, v := opened(t, d, 1), opened(t, d, 2)
	must(t, v.Append(row(9, 1)...), api.OK)
	size := 0
	for i, b := range row(1, 1, 2, 3) {
		must(t, w.Append(b), api.OK)
		if k := d.Durable("log-00000001"); k != size {
			t.Fatalf("%d: %d are durable, not %d", i, k, size)
		}
		must(t, w.Sync(), api.OK)
		if size = w.Size(); d.Durable("log-00000001") != size || d.Durable("log-00000002") != 0 || d.Durable("a") != 0 {
			t.Fatal("Sync does not let this file, and no other, be durable")
		}
		must(t, w.Sync(), api.OK)
	}
}

// Each Sync of a file that is there is a writing call; of one that is not, none.
func TestP15_3SyncIsAWritingCall(t *testing.T) {
	d := diskOf(t, nil)
	w := opened(t, d, 1)
	d.Arm(4)
	for range 10 {
		must(t, w.Sync(), api.OK)
	}
	hasFiles(t, d, nil)
	must(t, w.Append(row(1, 1)...), api.OK)
	must(t, w.Sync(), api.OK)
	must(t, w.Sync(), api.OK)
	must(t, opened(t, d, 2).Sync(), api.OK)
	must(t, w.Append(row(2, 1)...), api.ErrCrash)
	must(t, w.Sync(), api.ErrCrash)
	hasFiles(t, d, plainFiles{"log-00000001": logOf(row(1, 1)...)})
	d.Restart()
	d.Arm(2)
	must(t, w.Append(row(2, 1)...), api.OK)
	must(t, w.Sync(), api.ErrCrash)
	must(t, opened(t, d, 2).Sync(), api.ErrCrash)
	d.Restart()
	hasFiles(t, d, plainFiles{"log-00000001": logOf(row(1, 1)...)})
}

// Size is the file's as it is now, whoever wrote it.
func TestP15_3Size(t *testing.T) {
	d := diskOf(t, nil)
	w, v := opened(t, d, 1), opened(t, d, 1)
	sizes := func(want int) {
		t.Helper()
		if w.Size() != want || v.Size() != want {
			t.Fatalf("%d, %d, not %d", w.Size(), v.Size(), want)
		}
	}
	sizes(0)
	must(t, w.Append(row(1, 1)...), api.OK)
	one := len(logOf(row(1, 1)...))
	sizes(one)
	must(t, v.Append(row(2, 1)...), api.OK)
	sizes(2 * one)
	must(t, d.Append("log-00000001", []byte("xyz")), api.OK)
	sizes(2*one + 3)
	must(t, d.Append("log-00000002", []byte("xyz")), api.OK)
	sizes(2*one + 3)
	d.Arm(1)
	must(t, w.Sync(), api.ErrCrash)
	sizes(0)
	d.Restart(one + 1)
	sizes(one + 1)
	must(t, d.Remove("log-00000001"), api.OK)
	sizes(0)
	must(t, w.Sync(), api.OK)
	must(t, v.Append(row(1, 1)...), api.OK)
	sizes(one)
	if w.Number() != 1 || v.Number() != 1 {
		t.Error("another number")
	}
}

// The writer's disk is the one that was handed in, and its calls are the writer's, but those that the writer has itself.
func TestP15_3Embedded(t *testing.T) {
	d := diskOf(t, plainFiles{"a": "bc"})
	w := opened(t, d, 1)
	must(t, w.Append(row(1, 1)...), api.OK)
	b, e := w.Read("a", 1, 1)
	if w.Disk != d || string(b) != "c" || e != api.OK || !slices.Equal(w.List(), []string{"a", "log-00000001"}) || w.Durable("a") != 2 || w.Durable("log-00000001") != 0 || w.Stopped() {
		t.Error(b, e, w.List())
	}
	w.Arm(1)
	must(t, w.Sync(), api.ErrCrash)
	if !w.Stopped() || !d.Stopped() {
		t.Error("it goes on")
	}
}

func TestRule3NobodysWriter(t *testing.T) {
	d := diskOf(t, plainFiles{"log-00000000": "x"})
	d.Arm(1)
	var none Writer
	for _, w := range []*Writer{nil, {}, new(Writer), &none, {Disk: d}} {
		for _, c := range badBatches() {
			must(t, w.Append(c.b), api.ErrNil)
		}
		must(t, w.Append(), api.ErrNil)
		must(t, w.Append(row(1, 1, 1)...), api.ErrNil)
		must(t, w.Sync(), api.ErrNil)
		if w.Number() != 0 || w.Size() != 0 {
			t.Error(w.Number(), w.Size())
		}
	}
	hasFiles(t, d, plainFiles{"log-00000000": "x"})
	if d.Stopped() {
		t.Error("the disk was asked")
	}
}

// A writer whose disk somebody took away, or copied by hand, is odd, but nothing panics.
func TestRule1OddWriters(t *testing.T) {
	w := opened(t, diskOf(t, nil), 3)
	copied := *w
	must(t, copied.Append(row(1, 1)...), api.OK)
	if copied.Size() != w.Size() || copied.Number() != 3 {
		t.Error(copied.Size(), w.Size())
	}
	for _, d := range unmade() {
		w.Disk = d
		must(t, w.Append(row(1, 1)...), api.ErrNil)
		must(t, w.Sync(), api.ErrNil)
		if w.Size() != 0 || w.Number() != 3 {
			t.Error(w.Size(), w.Number())
		}
	}
}

func TestRule4AppendHandedIn(t *testing.T) {
	for _, l := range goodRows() {
		own := copyOf(l)
		d := diskOf(t, nil)
		w := opened(t, d, 1)
		must(t, w.Append(own...), api.OK)
		if !sameBatches(own, l) {
			t.Fatal("Append changes what is handed in")
		}
		spoil(own)
		want := plainFiles{}
		if len(l) > 0 {
			want["log-00000001"] = logOf(l...)
			replays(t, d, 0, l[0].Seq, l, 1)
		}
		hasFiles(t, d, want)
	}
}

func TestP15_4WrittenAndRead(t *testing.T) {
	r := rand.New(rand.NewSource(7))
	for range 400 {
		next := 1 + r.Intn(1<<(1+r.Intn(39)))
		l := randomRow(r, next, 20)
		d := diskOf(t, strangers())
		number, last, files := r.Intn(50), -1, 0
		for from := 0; from < len(l); {
			to := from + 1 + r.Intn(len(l)-from)
			w := opened(t, d, number)
			for some := range slices.Chunk(l[from:to], 1+r.Intn(4)) {
				must(t, w.Append(some...), api.OK)
			}
			last, from = number, to
			number += 1 + r.Intn(3)*r.Intn(30)
			files++
		}
		replays(t, d, 0, next, l, last)
		if len(Logs(d)) != files {
			t.Fatal(Logs(d), files)
		}
	}
}
