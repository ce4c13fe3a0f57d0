package wal

import (
	"fmt"
	"math"
	"math/rand"
	"slices"
	"strings"
	"testing"

	"loggia/api"
	"loggia/disk"
)

// strangeNames are those of files that are no logs, though some nearly look so.
var strangeNames = []string{"a", "manifest", "manifest.new", "seg-00000001", "ice-00000002", "log-", "log-7", "log-0000007", "log-000000007", "log-100000000", "log--0000007", "log-00000007.new", "log-0000000a", "log.00000007", "00000007", "log00000007", "lof-00000007", "loh-00000007", "xlog-00000007", strings.Repeat("0", 64), "log-" + strings.Repeat("0", 60)}

// strangers are files that are no logs, with a log's bytes.
func strangers() plainFiles {
	f := plainFiles{}
	for _, name := range strangeNames {
		f[name] = logOf(row(1, 1, 1)...)
	}
	return f
}

func TestP15_2Logs(t *testing.T) {
	for _, l := range [][]int{nil, {0}, {7}, {99999999}, {0, 99999999}, {0, 1, 2, 3, 9, 10, 11, 99, 100, 101, 9999999, 10000000, 12345678, 99999998, 99999999}} {
		for _, f := range []plainFiles{{}, strangers()} {
			for _, n := range l {
				f[plainName(n)] = ""
			}
			if got := Logs(diskOf(t, f)); !slices.Equal(got, l) {
				t.Errorf("Logs: %v, not %v", got, l)
			}
		}
	}
}

func TestP15_2LogsOfAllFiles(t *testing.T) {
	d := diskOf(t, nil)
	r := rand.New(rand.NewSource(4))
	var want []int
	for len(want) < 1024 {
		n := r.Intn(100000000) >> r.Intn(20)
		if !slices.Contains(want, n) {
			want = append(want, n)
			must(t, d.Append(plainName(n), nil), api.OK)
		}
	}
	slices.Sort(want)
	if got := Logs(d); !slices.Equal(got, want) {
		t.Errorf("%d files, not %d", len(got), len(want))
	}
}

// replays holds what Replay answers against what is asked, and against the model; nothing is done on the disk.
func replays(t *testing.T, d *disk.Disk, from, next int, want []api.Batch, last int) {
	t.Helper()
	f := filesOf(d)
	plain, greatest := f.replay(from, next)
	l, n, e := Replay(d, from, next)
	if !sameBatches(l, want) || n != last || e != api.OK || !sameBatches(plain, want) || greatest != last {
		t.Fatalf("Replay of %v from %d on, from the number %d on: %s, %d, %d, not %s, %d; the model: %s, %d", f.numbers(), from, next, short(l), n, e, short(want), last, short(plain), greatest)
	}
	hasFiles(t, d, f)
}

func TestP15_2Replay(t *testing.T) {
	d := diskOf(t, plainFiles{"log-00000003": logOf(row(1, 2, 1)...), "log-00000005": logOf(row(4, 1)...), "log-00000006": logOf(row(5, 3, 64, 1)...)})
	all := row(1, 2, 1, 1, 3, 64, 1)
	for from, first := range map[int]int{math.MinInt: 0, -1: 0, 0: 0, 2: 0, 3: 0, 4: 2, 5: 2, 6: 3, 7: 6, 8: 6, 99999999: 6, 100000000: 6, math.MaxInt: 6} {
		for _, next := range []int{math.MinInt, -1, 0, 1, 2, 3, 4, 5, 6, 7, 8, 72, 73, 74, 1 << 40, math.MaxInt} {
			want := all[first:]
			if len(want) == 0 || want[0].Seq != next {
				want = nil
			}
			replays(t, d, from, next, want, 6)
		}
	}
}

func TestP15_2ReplayNothing(t *testing.T) {
	for _, next := range []int{-1, 0, 1, 2} {
		replays(t, diskOf(t, nil), 0, next, nil, -1)
		replays(t, diskOf(t, strangers()), 0, next, nil, -1)
		replays(t, diskOf(t, plainFiles{"log-00000000": ""}), 0, next, nil, 0)
		replays(t, diskOf(t, plainFiles{"log-00000000": "", "log-00000009": "\xff", "log-99999999": ""}), 0, next, nil, 99999999)
		replays(t, diskOf(t, plainFiles{"log-00000008": "", "manifest": ""}), 9, next, nil, 8)
	}
}

// A file that ends with what is no frame, or no batch that follows, ends no row: the next file may go on.
func TestP15_2ReplayBehindTails(t *testing.T) {
	torn := logOf(row(3, 5)...)
	for _, tail := range []string{"", "\x00", "\xff", torn[:len(torn)-1], torn[:3], frameOf(""), frameOf("x"), logOf(row(4, 1)...), logOf(row(1, 1)...), logOf(row(1, 2)...), logOf(batch(0, of(0))), logOf(batch(3)), logOf(row(9, 1)...) + logOf(row(3, 1)...)} {
		d := diskOf(t, plainFiles{"log-00000001": logOf(row(1, 1, 1)...) + tail, "log-00000002": tail[:min(len(tail), 1)], "log-00000004": logOf(row(3, 1, 2)...) + tail, "log-00000005": logOf(row(6, 7)...)})
		replays(t, d, 1, 1, row(1, 1, 1, 1, 2, 7), 5)
		replays(t, d, 2, 3, row(3, 1, 2, 7), 5)
		replays(t, d, 4, 3, row(3, 1, 2, 7), 5)
		replays(t, d, 5, 3, nil, 5)
		replays(t, d, 1, 3, nil, 5)
	}
}

// The first batch that does not follow ends all, also where a later one would.
func TestP15_2ReplayEnds(t *testing.T) {
	good, behind := logOf(row(1, 2, 1)...), logOf(row(4, 2)...)
	for _, between := range []string{logOf(row(5, 1)...), logOf(row(3, 1)...), logOf(row(1, 2, 1)...), logOf(row(1, 3)...), logOf(row(2, 2)...), logOf(row(1<<40, 1)...), logOf(row(5, 1, 1)...) + behind} {
		d := diskOf(t, plainFiles{"log-00000001": good, "log-00000002": between, "log-00000003": behind, "log-00000009": logOf(row(6, 1)...)})
		replays(t, d, 0, 1, row(1, 2, 1), 9)
		replays(t, d, 3, 4, row(4, 2, 1), 9)
	}
	d := diskOf(t, plainFiles{"log-00000001": logOf(row(8, 1)...), "log-00000002": logOf(row(1, 2)...)})
	replays(t, d, 0, 1, nil, 2)
	replays(t, d, 0, 8, row(8, 1), 2)
	replays(t, d, 2, 1, row(1, 2), 2)
}

// The file of a begun row is the one of its number, not the one of its batches.
func TestP15_2ReplayByNumbers(t *testing.T) {
	d := diskOf(t, plainFiles{"log-00000009": logOf(row(1, 1)...), "log-00000010": logOf(row(2, 1)...), "log-00000100": logOf(row(3, 1)...)})
	replays(t, d, 0, 1, row(1, 1, 1, 1), 100)
	d = diskOf(t, plainFiles{"log-00000010": logOf(row(1, 1)...), "log-00000009": logOf(row(2, 1)...)})
	replays(t, d, 0, 1, nil, 10)
	replays(t, d, 0, 2, row(2, 1), 10)
}

func TestP15_2ReplayOfGreatFiles(t *testing.T) {
	var l []api.Batch
	for i := range 150 {
		l = append(l, batch(1+i, sized(65536)))
	}
	d := diskOf(t, plainFiles{"log-00000001": logOf(l[:100]...), "log-00000002": logOf(l[100:]...)})
	replays(t, d, 1, 1, l, 2)
	replays(t, d, 2, 101, l[100:], 2)
}

func TestP15_2ReplayByChance(t *testing.T) {
	r := rand.New(rand.NewSource(5))
	whole, cut := 0, 0
	for range 1500 {
		f := plainFiles{}
		next, all := 1+r.Intn(20), 0
		starts := []int{next, 1 + r.Intn(20)}
		for i := range r.Intn(5) {
			l := randomRow(r, next, 4)
			s := logOf(l...)
			if r.Intn(4) == 0 {
				s = turned(r, s)
			}
			f[plainName(2*i+r.Intn(2))] = s
			if len(l) > 0 && r.Intn(10) > 0 {
				next = nextOf(l)
			}
			starts = append(starts, next)
			all += len(l)
		}
		d := diskOf(t, f)
		for from := range 11 {
			for _, start := range starts {
				l, last := f.replay(from, start)
				replays(t, d, from, start, l, last)
				if len(l) == all {
					whole++
				} else if len(l) > 0 {
					cut++
				}
			}
		}
	}
	if whole < 1000 || cut < 1000 {
		t.Errorf("only %d, %d tell all, or something", whole, cut)
	}
}

func TestRule4Replay(t *testing.T) {
	d := diskOf(t, plainFiles{"log-00000001": logOf(goodRows()[6]...), "log-00000002": logOf(row(76, 1)...)})
	l, _, _ := Replay(d, 0, 3)
	again, _, _ := Replay(d, 0, 3)
	want := copyOf(l)
	if len(l) != 6 {
		t.Fatal(short(l))
	}
	for i := range l {
		spoil(l[i : i+1 : i+1])
		if !sameBatches(l[i+1:], want[i+1:]) {
			t.Fatal("batches of one answer share memory")
		}
	}
	logs := Logs(d)
	logs[0] = -9
	if !sameBatches(again, want) || !slices.Equal(Logs(d), []int{1, 2}) {
		t.Error("answers share memory")
	}
	replays(t, d, 0, 3, want, 2)
}

func TestP15_2Truncate(t *testing.T) {
	numbers := []int{0, 1, 2, 5, 9, 10, 11, 100, 99999998, 99999999}
	for _, below := range []int{math.MinInt, -1, 0, 1, 2, 3, 4, 5, 6, 9, 10, 11, 12, 99, 100, 101, 99999998, 99999999, 100000000, math.MaxInt} {
		f := strangers()
		for _, n := range numbers {
			f[plainName(n)] = logOf(row(1+n, 1)...)
		}
		d := diskOf(t, f)
		want := 0
		for _, n := range numbers {
			if n < below {
				delete(f, plainName(n))
				want++
			}
		}
		for _, k := range []int{want, 0} { // a second time there are none
			if n, e := Truncate(d, below); n != k || e != api.OK {
				t.Errorf("Truncate below %d: %d, %d, not %d", below, n, e, k)
			}
			hasFiles(t, d, f)
		}
	}
}

// At the first error no further file is removed; those ahead are counted.
func TestP15_2TruncateStops(t *testing.T) {
	numbers := []int{3, 4, 7, 20, 21}
	for calls := range 8 {
		f := strangers()
		for _, n := range numbers {
			f[plainName(n)] = "x"
		}
		d := diskOf(t, f)
		d.Arm(calls)
		removed, want := 4, api.OK
		if calls >= 1 && calls <= 4 {
			removed, want = calls-1, api.ErrCrash
		}
		if n, e := Truncate(d, 21); n != removed || e != want {
			t.Errorf("Truncate, stopped at the call %d: %d, %d", calls, n, e)
		}
		for _, n := range numbers[:removed] {
			delete(f, plainName(n))
		}
		hasFiles(t, d, f)
		if d.Stopped() != (want == api.ErrCrash) {
			t.Error("it goes on")
		}
	}
}

// Of a disk that has stopped List tells no files, so none is read, or removed, and no error of that is told.
func TestP15_2Stopped(t *testing.T) {
	for _, f := range []plainFiles{{}, strangers(), {"log-00000000": ""}, {"log-00000001": logOf(row(1, 1)...), "log-00000002": logOf(row(2, 1)...) + "\xff", "a": ""}} {
		d := diskOf(t, f)
		want, last := f.replay(0, 1)
		d.Arm(1)
		must(t, d.Append("b", nil), api.ErrCrash)
		for range 2 {
			if l := Logs(d); len(l) > 0 {
				t.Error(l)
			}
			for _, n := range []int{0, 1, 2, 3, math.MinInt, math.MaxInt} {
				if l, last, e := Replay(d, n, 1); len(l) > 0 || last != -1 || e != api.OK {
					t.Error(l, last, e)
				}
				if k, e := Truncate(d, n); k != 0 || e != api.OK {
					t.Error(k, e)
				}
			}
		}
		hasFiles(t, d, f)
		if !d.Stopped() {
			t.Error("it goes on")
		}
		d.Restart()
		replays(t, d, 0, 1, want, last)
	}
}

// What asks calls for no writing, and so stops no disk.
func TestP15_2NoWriting(t *testing.T) {
	f := plainFiles{"log-00000001": logOf(row(1, 1)...) + "\x04", "log-00000002": "", "a": "b"}
	d := diskOf(t, f)
	d.Arm(1)
	for range 3 {
		replays(t, d, 0, 1, row(1, 1), 2)
		Logs(d)
		if n, e := Truncate(d, 1); n != 0 || e != api.OK {
			t.Error(n, e)
		}
		if d.Stopped() {
			t.Fatal("it has stopped")
		}
	}
	must(t, d.Append("a", nil), api.ErrCrash)
}

// unmade are disks that nobody made.
func unmade() []*disk.Disk {
	var none disk.Disk
	return []*disk.Disk{nil, {}, new(disk.Disk), &none}
}

func TestRule3NobodysDisk(t *testing.T) {
	for _, d := range unmade() {
		if l := Logs(d); len(l) > 0 {
			t.Error(l)
		}
		for _, n := range []int{0, 1, -1, 7, 99999999, 100000000, math.MaxInt, math.MinInt} {
			if l, last, e := Replay(d, n, n); len(l) > 0 || last != 0 || e != api.ErrNil {
				t.Error(l, last, e)
			}
			if k, e := Truncate(d, n); k != 0 || e != api.ErrNil {
				t.Error(k, e)
			}
			if w, e := Open(d, n); w != nil || e != api.ErrNil {
				t.Error(w, e)
			}
		}
	}
}

// Disks that were given the same answer the same, each time.
func TestRule5Again(t *testing.T) {
	r := rand.New(rand.NewSource(6))
	f := plainFiles{}
	next := 1
	for i := range 200 {
		l := randomRow(r, next, 3)
		f[plainName(i*i)] = logOf(l...)
		if len(l) > 0 {
			next = nextOf(l)
		}
	}
	d := diskOf(t, f)
	want, last := f.replay(3, 1)
	start := fmt.Sprint(Logs(d))
	for range 10 {
		replays(t, d, 3, 1, want, last)
		if k := diskOf(t, f); fmt.Sprint(Logs(k)) != start {
			t.Fatal("another disk like it tells others")
		}
	}
}
