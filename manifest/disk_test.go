package manifest

import (
	"fmt"
	"maps"
	"math"
	"math/rand"
	"slices"
	"strings"
	"testing"

	"loggia/api"
	"loggia/disk"
)

// loads holds what Load answers of a disk against what is asked; nothing is done on the disk.
func loads(t *testing.T, d *disk.Disk, want api.Manifest, there bool, x api.Errno) {
	t.Helper()
	was := filesOf(d)
	m, ok, e := Load(d)
	if !plainSame(m, want) || ok != there || e != x {
		t.Fatalf("Load: %s, %v, %d, not %s, %v, %d", short(m), ok, e, short(want), there, x)
	}
	if !maps.Equal(filesOf(d), was) {
		t.Fatal("Load does something")
	}
}

// stoppedLike is a disk like another one that has stopped.
func stoppedLike(t *testing.T, d *disk.Disk) *disk.Disk {
	t.Helper()
	k := d.Fork()
	k.Arm(1)
	must(t, k.Append("x", nil), api.ErrCrash)
	return k
}

// strangers are files that Save and Load have nothing to do with.
func strangers() files {
	return files{"a": {"b", "c"}, "log-00000001": {"", "d"}, "manifest.new2": {"x"}, "manifest.old": {plainBytes(full(1))}, "seg-00000001": {}}
}

// with are strangers, and other files.
func with(f files) files {
	all := strangers()
	maps.Copy(all, f)
	return all
}

// saved are strangers, and the file of a manifest that was saved.
func saved(m api.Manifest) files { return with(files{"manifest": {plainBytes(m)}}) }

// oldAndNew are strangers, and the two files that Save writes to; of no bytes there is none.
func oldAndNew(l, k *[2]string) files {
	f := strangers()
	if l != nil {
		f["manifest"] = *l
	}
	if k != nil {
		f["manifest.new"] = *k
	}
	return f
}

func TestP16_5Save(t *testing.T) {
	r := rand.New(rand.NewSource(8))
	all := []api.Manifest{New(), known(), full(512), full(1), New()}
	for range 40 {
		all = append(all, random(r, 6))
	}
	d := diskOf(t, strangers())
	for _, m := range all {
		was := copyOf(m)
		must(t, Save(d, m), api.OK)
		same(t, m, was)
		hasFiles(t, d, saved(m))
		loads(t, d, m, true, api.OK)
	}
}

// What stands there, by either name, whatever it is.
func TestP16_5SaveOverAll(t *testing.T) {
	m, s := known(), plainBytes(full(2))
	for _, old := range []*[2]string{nil, {}, {"x", "y"}, {s}, {"", s}, {plainBytes(m)}} {
		for _, left := range []*[2]string{nil, {}, {"z"}, {"", "z"}, {s[:9], s[9:]}, {plainBytes(m)}, {plainBytes(full(512))}} {
			d := diskOf(t, oldAndNew(old, left))
			must(t, Save(d, m), api.OK)
			hasFiles(t, d, saved(m))
		}
	}
}

// A manifest that may not be is refused ahead of all, whatever the disk is.
func TestP16_5SaveOfWhatMayNotBe(t *testing.T) {
	for _, c := range []struct {
		m api.Manifest
		x api.Errno
	}{{api.Manifest{}, 160}, {full(513), 3}, {api.Manifest{Log: 1, Next: 1, Done: -1}, 160}, {api.Manifest{Log: 1, Next: 1, Parts: make([]api.Part, 513)}, 3}} {
		f := oldAndNew(&[2]string{plainBytes(known())}, &[2]string{"x", "y"})
		d := diskOf(t, f)
		d.Arm(1)
		must(t, Save(d, c.m), c.x)
		hasFiles(t, d, f)
		if d.Stopped() {
			t.Error("a writing call")
		}
		must(t, Save(stoppedLike(t, d), c.m), c.x)
		for _, d := range unmade() {
			must(t, Save(d, c.m), c.x)
		}
	}
}

// What is there behind each writing call of a Save: it stops the disk at the next one.
func TestP16_5SaveStepByStep(t *testing.T) {
	m, old := known(), &[2]string{plainBytes(full(3))}
	s := plainBytes(m)
	steps := []files{oldAndNew(old, &[2]string{"le", "ft"}), oldAndNew(old, nil), oldAndNew(old, &[2]string{"", s}), oldAndNew(old, &[2]string{s})}
	for first := range 2 { // with a manifest.new that is removed, and without
		for i, want := range steps[first:] {
			d := diskOf(t, steps[first])
			d.Arm(1 + i)
			must(t, Save(d, m), api.ErrCrash)
			hasFiles(t, d, want)
			if !d.Stopped() {
				t.Error("it goes on")
			}
		}
		d := diskOf(t, steps[first])
		d.Arm(5 - first) // at a further writing call
		must(t, Save(d, m), api.OK)
		hasFiles(t, d, saved(m))
		must(t, d.Append("a", nil), api.ErrCrash)
	}
}

func TestP16_5SaveOfStopped(t *testing.T) {
	for _, f := range []files{nil, strangers(), oldAndNew(nil, &[2]string{"x", "y"}), saved(full(1))} {
		d := stoppedLike(t, diskOf(t, f))
		must(t, Save(d, known()), api.ErrCrash)
		must(t, Save(d, known()), api.ErrCrash)
		hasFiles(t, d, f)
	}
}

// Where there is no room the manifest stays as it was, and manifest.new is not there.
func TestP16_5SaveWithoutRoom(t *testing.T) {
	m, old := known(), full(3)
	used := diskOf(t, saved(old)).Used()
	for _, left := range []*[2]string{nil, {}, {"left"}, {"", strings.Repeat("l", 200)}} {
		for _, room := range []int{-1000, -50, -2, -1, 0, 1, 1000} {
			d := diskOf(t, oldAndNew(&[2]string{plainBytes(old)}, left))
			must(t, d.Quota(max(1, used+len(plainBytes(m))+room)), api.OK)
			want, now := api.OK, m
			if room < 0 {
				want, now = api.ErrFull, old
			}
			must(t, Save(d, m), want)
			hasFiles(t, d, saved(now))
			loads(t, d, now, true, api.OK)
		}
	}
}

// A disk that is to stop, but has no room, is not stopped by what is refused.
func TestP16_5SaveWithoutRoomArmed(t *testing.T) {
	old := &[2]string{"o", "ld"}
	f := oldAndNew(old, &[2]string{"n", "ew"})
	for calls, want := range map[int]api.Errno{1: api.ErrCrash, 2: api.ErrFull, 3: api.ErrFull} {
		d := diskOf(t, f)
		must(t, d.Quota(d.Used()), api.OK)
		d.Arm(calls)
		must(t, Save(d, full(100)), want)
		if calls == 1 {
			hasFiles(t, d, f)
		} else {
			hasFiles(t, d, oldAndNew(old, nil))
		}
		if d.Stopped() != (want == api.ErrCrash) {
			t.Error(calls, d.Stopped())
		}
	}
}

// No new file may be made, unless manifest.new was one of them.
func TestP16_5SaveOfTooManyFiles(t *testing.T) {
	m := known()
	for _, last := range []string{"manifest", "manifest.new", "other"} {
		f := files{last: {plainBytes(full(3))}}
		for i := range 1023 {
			f[fmt.Sprint("f", i)] = [2]string{}
		}
		d := diskOf(t, f)
		if last == "manifest.new" {
			must(t, Save(d, m), api.OK)
			delete(f, last)
			f["manifest"] = [2]string{plainBytes(m)}
		}
		must(t, Save(d, m), api.ErrMany)
		hasFiles(t, d, f)
		must(t, d.Remove("f7"), api.OK)
		must(t, Save(d, full(512)), api.OK)
		loads(t, d, full(512), true, api.OK)
	}
}

func TestP16_6Load(t *testing.T) {
	r := rand.New(rand.NewSource(9))
	for _, f := range []files{nil, strangers(), oldAndNew(nil, &[2]string{plainBytes(known())})} {
		loads(t, diskOf(t, f), New(), false, api.OK)
	}
	all := []api.Manifest{New(), known(), full(1), full(512)}
	for range 100 {
		all = append(all, random(r, 5))
	}
	for _, m := range all {
		s := plainBytes(m)
		for _, told := range []*[2]string{{s}, {"", s}, {s[:11], s[11:]}} {
			loads(t, diskOf(t, oldAndNew(told, nil)), m, true, api.OK)
			loads(t, diskOf(t, oldAndNew(told, &[2]string{plainBytes(full(9))})), m, true, api.OK)
		}
	}
}

func TestP16_6LoadOfNoManifest(t *testing.T) {
	s := plainBytes(known())
	for _, odd := range []string{"", "x", "manifest", s + "\x00", s[:len(s)-1], s[1:], s + s, plainBytes(api.Manifest{}), plainBytes(full(513)), summed(s), strings.Repeat("\x00", 1<<20), s[:20] + "\xff" + s[21:]} {
		d := diskOf(t, oldAndNew(&[2]string{odd}, nil))
		loads(t, d, api.Manifest{}, false, api.ErrManifest)
		loads(t, stoppedLike(t, d), api.Manifest{}, false, api.ErrCrash)
		must(t, d.Append("manifest.new", []byte(s)), api.OK)
		loads(t, d, api.Manifest{}, false, api.ErrManifest)
	}
}

// A manifest's bytes, and so many others that the file is as long as may be.
func TestP16_6LoadOfAGreatFile(t *testing.T) {
	s := plainBytes(known())
	d := diskOf(t, files{"manifest": {s}})
	must(t, d.Append("manifest", make([]byte, 1<<26-len(s))), api.OK)
	if m, ok, e := Load(d); ok || e != api.ErrManifest || !plainSame(m, api.Manifest{}) {
		t.Error(short(m), ok, e)
	}
}

func TestP16_6LoadOfStopped(t *testing.T) {
	for _, f := range []files{nil, strangers(), saved(known()), oldAndNew(nil, &[2]string{plainBytes(known())})} {
		d := diskOf(t, f)
		loads(t, stoppedLike(t, d), api.Manifest{}, false, api.ErrCrash)
		d.Arm(1) // Load is no writing call
		for range 3 {
			if _, _, e := Load(d); e != api.OK || d.Stopped() {
				t.Error(e)
			}
		}
	}
}

// unmade are disks that nobody made.
func unmade() []*disk.Disk {
	var none disk.Disk
	return []*disk.Disk{nil, {}, new(disk.Disk), &none}
}

func TestRule3NobodysDisk(t *testing.T) {
	for _, d := range unmade() {
		for _, m := range []api.Manifest{New(), known(), full(512)} {
			must(t, Save(d, m), api.ErrNil)
		}
		m, ok, e := Load(d)
		if !plainSame(m, api.Manifest{}) || ok || e != api.ErrNil {
			t.Error(short(m), ok, e)
		}
	}
}

func TestP16_7SavedIsLoaded(t *testing.T) {
	r := rand.New(rand.NewSource(10))
	d := diskOf(t, strangers())
	for range 500 {
		m := random(r, 1<<r.Intn(6))
		must(t, Save(d, m), api.OK)
		loads(t, d, m, true, api.OK)
		loads(t, d.Fork(), m, true, api.OK)
		if r.Intn(3) == 0 {
			d.Restart()
			loads(t, d, m, true, api.OK)
		}
	}
}

// Of one Save: wherever the disk stops, and whatever it keeps of what was not synced.
func TestP16_8EachStopAndKeep(t *testing.T) {
	m := known()
	for _, old := range []*[2]string{nil, {plainBytes(full(2))}} {
		want := New()
		if old != nil {
			want = full(2)
		}
		for _, left := range []*[2]string{nil, {"", "junk"}, {plainBytes(full(2))}, {plainBytes(full(30)), "x"}} {
			for stop := 1; stop < 7; stop++ {
				d := diskOf(t, oldAndNew(old, left))
				d.Arm(stop)
				e := Save(d, m)
				for keep := -1; keep <= len(plainBytes(m)); keep++ {
					k := d.Fork()
					k.Restart(slices.Repeat([]int{keep}, 8)...)
					if e == api.OK {
						loads(t, k, m, true, api.OK)
					} else {
						must(t, e, api.ErrCrash)
						loads(t, k, want, old != nil, api.OK)
					}
				}
			}
		}
	}
}

// A row of Saves on a disk that stops, time after time: the last one that told OK is loaded, or a later one that told ErrCrash.
func TestP16_8Histories(t *testing.T) {
	r := rand.New(rand.NewSource(11))
	stops, saves := 0, 0
	for range 300 {
		d := diskOf(t, strangers())
		now, there := New(), false
		for range 25 {
			d.Arm(r.Intn(12))
			m := random(r, 4)
			e := Save(d, m)
			if e == api.OK {
				now, there = m, true
				saves++
				loads(t, d, now, there, api.OK)
			} else {
				must(t, e, api.ErrCrash)
				loads(t, d, api.Manifest{}, false, api.ErrCrash)
				stops++
			}
			if e == api.OK && r.Intn(5) > 0 {
				continue
			}
			keep := make([]int, 8)
			for i := range keep {
				keep[i] = r.Intn(100) - 1
			}
			d.Restart(keep...)
			if got, ok, _ := Load(d); e != api.OK && ok && plainSame(got, m) {
				now, there = m, true
			}
			loads(t, d, now, there, api.OK)
		}
	}
	if stops < 500 || saves < 500 {
		t.Error(stops, saves)
	}
}

func TestRule4Disk(t *testing.T) {
	m := known()
	d := diskOf(t, nil)
	must(t, Save(d, m), api.OK)
	m.Parts[0], m.Parts[1].N = api.Part{}, 77
	loads(t, d, known(), true, api.OK)
	k, _, _ := Load(d)
	k.Parts[0].Last, k.Parts[2] = math.MaxInt, api.Part{}
	loads(t, d, known(), true, api.OK)
}

// Disks that were given the same answer the same, each time.
func TestRule5Again(t *testing.T) {
	names := []string{"seg-00000009", "manifest", "ice-00000004", "manifest.new", "log-00000003", "seg-00000001", "log-00000012", "seg-00000002"}
	for range 20 {
		orphaned(t, known(), names, "seg-00000009", "ice-00000004", "manifest.new", "log-00000003", "seg-00000001")
		d := diskOf(t, strangers())
		must(t, Save(d, known()), api.OK)
		hasFiles(t, d, saved(known()))
	}
}
