package wal

import (
	"math/rand"
	"slices"
	"testing"

	"loggia/api"
	"loggia/disk"
)

// step is a call of a history: an Append of batches, or, of none, a Sync.
type step struct {
	n       int // the file's number
	batches []api.Batch
}

// history is batches that are appended to files that follow one another, each file synced ahead of the next one's first Append; to others it is synced now and then.
func history(r *rand.Rand, next, n int) []step {
	var l []step
	number := 1
	for range n {
		switch r.Intn(5) {
		case 0:
			l = append(l, step{n: number})
		case 1:
			l = append(l, step{n: number})
			number += 1 + r.Intn(3)
		default:
			some := randomRow(r, next, 3)
			if len(some) > 0 {
				next = nextOf(some)
				l = append(l, step{number, some})
			}
		}
	}
	return l
}

// lived is what a history did till the disk stopped: what was appended, and how many batches of that were synced.
type lived struct {
	appended []api.Batch
	synced   int
}

// live does a history's calls on a disk, one by one, till one is refused; more: it may begin with what another one left.
func (l *lived) live(t *testing.T, d *disk.Disk, steps []step) {
	t.Helper()
	for _, s := range steps {
		w := opened(t, d, s.n)
		var e api.Errno
		if len(s.batches) == 0 {
			e = w.Sync()
		} else {
			e = w.Append(s.batches...)
		}
		switch {
		case e == api.ErrCrash:
			return
		case e != api.OK:
			t.Fatal(e)
		case len(s.batches) == 0:
			l.synced = len(l.appended)
		}
		l.appended = append(l.appended, s.batches...)
	}
}

// found holds what Replay tells against what a history did, and answers it.
func (l *lived) found(t *testing.T, d *disk.Disk, from, next int) []api.Batch {
	t.Helper()
	told, _, e := Replay(d, from, next)
	must(t, e, api.OK)
	if len(told) < l.synced || len(told) > len(l.appended) || !sameBatches(told, l.appended[:len(told)]) {
		t.Fatalf("Replay tells %s; appended were %s, of which %d were synced", short(told), short(l.appended), l.synced)
	}
	return told
}

// keeps are how many bytes of each file a restart keeps; sometimes all.
func keeps(r *rand.Rand) []int {
	l := make([]int, 40)
	for i := range l {
		l[i] = r.Intn(200)
		if r.Intn(3) == 0 {
			l[i] = -1
		}
	}
	return l
}

func TestP15_5LostTails(t *testing.T) {
	r := rand.New(rand.NewSource(8))
	lost, kept := 0, 0
	for range 150 {
		next := 1 + r.Intn(1000)
		steps := history(r, next, 14)
		for stop := range len(steps) + 2 {
			d := diskOf(t, plainFiles{"a": "", "log-00000007.new": "x"})
			must(t, d.Append("a", []byte("not durable")), api.OK)
			d.Arm(stop)
			var l lived
			l.live(t, d, steps)
			for range 6 {
				k := d.Fork()
				k.Restart(keeps(r)...)
				if told := l.found(t, k, 1, next); len(told) < len(l.appended) {
					lost++
				} else if l.synced < len(told) {
					kept++
				}
			}
		}
	}
	if lost < 1000 || kept < 100 {
		t.Errorf("only %d lost some, %d kept what was not synced", lost, kept)
	}
}

// Of one file whatever is kept tells the batches whose frames are whole.
func TestP15_5EachKeep(t *testing.T) {
	l := row(4, 2, 1, 3, 1)
	d := diskOf(t, nil)
	w := opened(t, d, 1)
	must(t, w.Append(l[:1]...), api.OK)
	must(t, w.Sync(), api.OK)
	must(t, w.Append(l[1], l[2]), api.OK)
	must(t, w.Append(l[3]), api.OK)
	sure, all := len(logOf(l[0])), len(logOf(l...))
	for keep := range all - sure + 1 {
		k := d.Fork()
		k.Restart(keep)
		told := 1
		for told < 4 && len(logOf(l[:told+1]...)) <= sure+keep {
			told++
		}
		replays(t, k, 0, 4, l[:told], 1)
	}
}

// Behind a restart a further file goes on with the number behind what was told, whatever tail the one ahead has; so it is found again, time after time.
func TestP15_5GoneOn(t *testing.T) {
	r := rand.New(rand.NewSource(9))
	for range 200 {
		d := diskOf(t, nil)
		var l lived
		next, number := 1, 0
		for range 6 {
			steps := history(r, next, 8)
			for i := range steps {
				steps[i].n += number
			}
			d.Arm(1 + r.Intn(12))
			l.live(t, d, steps)
			d.Restart(keeps(r)...)
			told := l.found(t, d, 0, 1)
			l = lived{slices.Clone(told), len(told)}
			if len(told) > 0 {
				next = nextOf(told)
			}
			if logs := Logs(d); len(logs) > 0 {
				number = logs[len(logs)-1]
			}
		}
	}
}
