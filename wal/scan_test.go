package wal

import (
	"math"
	"math/rand"
	"slices"
	"strings"
	"testing"

	"loggia/api"
)

func TestP15_1Name(t *testing.T) {
	for n, want := range map[int]string{0: "log-00000000", 1: "log-00000001", 7: "log-00000007", 9: "log-00000009", 10: "log-00000010", 12345: "log-00012345", 9999999: "log-09999999", 10000000: "log-10000000", 12345678: "log-12345678", 99999998: "log-99999998", 99999999: "log-99999999"} {
		if s, e := Name(n); s != want || e != api.OK {
			t.Errorf("Name(%d): %q, %d", n, s, e)
		}
		if k, ok := Number(want); k != n || !ok {
			t.Errorf("Number(%q): %d, %v", want, k, ok)
		}
	}
	for _, n := range []int{-1, -2, -7, -99999999, -100000000, 100000000, 100000001, 123456789, 1 << 32, 1<<32 + 7, 1 << 40, math.MaxInt, math.MinInt, math.MinInt + 1} {
		if s, e := Name(n); s != "" || e != api.ErrArg {
			t.Errorf("Name(%d): %q, %d", n, s, e)
		}
	}
	for n := 0; n < 100000000; n += 9973 {
		s, e := Name(n)
		k, ok := Number(s)
		if s != plainName(n) || e != api.OK || k != n || !ok {
			t.Fatalf("%d: %q, %d, %d, %v", n, s, e, k, ok)
		}
	}
}

func TestP15_1NoNumber(t *testing.T) {
	for _, s := range []string{
		"", "l", "log", "log-", "log-7", "log-0000007", "log-000000007", "log-100000000", "log-0000000", "log-000000000", "log-99999999999999999999", "log-18446744073709551617", "00000007", "-0000007", "0000000000007", "log00000007", "log_00000007", "log--0000007", "log-+0000007", "log--00000007", "log-+00000007", "log- 0000007", "log-0000007 ", "log-00000007 ", " log-00000007", "log-00000007\n", "log-00000007\x00",
		"log-0000000a", "log-a0000000", "log-0x000007", "log-0b000001", "log-0o000007", "log-0_000_07", "log-000_0007", "log-0000.007", "log-00000e07", "log-1e000000", "log-0000007.", "Log-00000007", "LOG-00000007", "lof-00000007", "log-log-00000007", "log-log-0000", "xlog-00000007", "seg-00000007", "ice-00000007", "manifest", "manifest.new", "log-00000007.new", "log-0000000\xd9\xa7", "log-\xd9\xa0\xd9\xa0\xd9\xa0\xd9\xa7", "log-000000\xff7", "log-" + strings.Repeat("0", 100), "log-" + strings.Repeat("9", 5000), strings.Repeat("log-", 3), strings.Repeat("0", 12),
	} {
		if n, ok := Number(s); n != 0 || ok {
			t.Errorf("Number(%q): %d, %v", s, n, ok)
		}
	}
}

// One byte of a name is another one: only digits in place of digits make a name.
func TestP15_1NumberTurned(t *testing.T) {
	for _, name := range []string{"log-00000000", "log-00000007", "log-12345678", "log-99999999"} {
		for i := range name {
			for c := range 256 {
				s := name[:i] + string([]byte{byte(c)}) + name[i+1:]
				isName := s == name || i >= 4 && c >= '0' && c <= '9'
				n, ok := Number(s)
				if ok != isName || ok && plainName(n) != s || !ok && n != 0 {
					t.Errorf("Number(%q): %d, %v", s, n, ok)
				}
			}
			if n, ok := Number(name[:i] + name[i+1:]); n != 0 || ok {
				t.Errorf("Number of %q without the byte %d: %d, %v", name, i, n, ok)
			}
		}
	}
}

// scanned holds what Scan answers against the model.
func scanned(t *testing.T, s string) ([]api.Batch, int, api.Errno) {
	t.Helper()
	l, n, e := Scan([]byte(s))
	want, size, x := plainScan(s)
	if !sameBatches(l, want) || n != size || e != x {
		t.Fatalf("Scan of %d bytes, %.200q: %s, %d, %d, not %s, %d, %d", len(s), s, short(l), n, e, short(want), size, x)
	}
	return l, n, e
}

// scans holds what Scan answers against what is asked, and against the model.
func scans(t *testing.T, s string, want []api.Batch, x api.Errno) {
	t.Helper()
	l, n, e := scanned(t, s)
	if size := len(logOf(want...)); !sameBatches(l, want) || n != size || e != x {
		t.Fatalf("Scan of %.200q: %s, %d, %d, not %s, %d, %d", s, short(l), n, e, short(want), size, x)
	}
}

func TestP15_1Scan(t *testing.T) {
	for _, l := range goodRows() {
		scans(t, logOf(l...), l, api.OK)
	}
	for _, b := range [][]byte{nil, {}} {
		if l, n, e := Scan(b); len(l) > 0 || n != 0 || e != api.OK {
			t.Error(l, n, e)
		}
	}
}

// What stands here was written down, not made.
func TestP15_1ScanKnown(t *testing.T) {
	b := []byte{
		4, 0xd2, 0xc0, 0xf7, 0x16, 7, 1, 5, 0,
		13, 0xc1, 0xb5, 0xf2, 0x1e, 8, 2, 0, 1, 3, 'm', 's', 'g', 2, 'o', 'k', 1, 0,
	}
	want := []api.Batch{batch(7, of(-3)), batch(8, of(0, "msg", "ok"), of(-1))}
	if l, n, e := Scan(b); !sameBatches(l, want) || n != len(b) || e != api.OK {
		t.Errorf("%s, %d, %d", short(l), n, e)
	}
	if l, n, e := Scan(b[:20]); !sameBatches(l, want[:1]) || n != 9 || e != api.ErrTorn {
		t.Errorf("%s, %d, %d", short(l), n, e)
	}
}

func TestP15_1ScanTorn(t *testing.T) {
	for _, l := range [][]api.Batch{row(1, 1), row(5, 2, 1, 3), row(100, 1, 40, 2), {batch(1, of(0, "a", xs(300))), batch(2, of(-1))}} {
		s := logOf(l...)
		for cut := range len(s) + 1 {
			told, whole := 0, 0
			for told < len(l) && whole+len(logOf(l[told])) <= cut {
				whole += len(logOf(l[told]))
				told++
			}
			e := api.ErrTorn
			if whole == cut {
				e = api.OK
			}
			scans(t, s[:cut], l[:told], e)
		}
	}
}

func TestP15_1ScanTurned(t *testing.T) {
	r := rand.New(rand.NewSource(2))
	for _, l := range [][]api.Batch{row(1, 1), row(5, 2, 1, 3), {batch(1, of(0, "a", xs(150))), batch(2, of(-1)), batch(3, of(0))}} {
		s := []byte(logOf(l...))
		for i := range s {
			was := s[i]
			for _, by := range []byte{1, 2, 0x80, 0xff, byte(1 + r.Intn(255))} {
				s[i] = was ^ by
				if _, _, e := scanned(t, string(s)); e == api.OK {
					t.Fatalf("the byte %d of %s is %d: OK", i, short(l), s[i])
				}
			}
			s[i] = was
		}
	}
}

// Frames that are whole, but are none of batches that may be.
func TestP15_1ScanNoBatch(t *testing.T) {
	good := bytesOf(batch(3, of(1, "a", "b")))
	payloads := []string{"", "\x00", "\xff", "batch", good + "\x00", good[:len(good)-1], "\x83\x00" + good[1:], frameOf(good), good + good, strings.Repeat("\x80", 300), xs(70000)}
	for _, c := range badBatches() {
		payloads = append(payloads, bytesOf(c.b))
	}
	for _, p := range payloads {
		for _, ahead := range [][]api.Batch{nil, row(1, 2), row(1, 1, 1)} {
			for _, behind := range []string{"", logOf(row(3, 1)...), logOf(row(4, 1)...), "\x00", "\xff"} {
				scans(t, logOf(ahead...)+frameOf(p)+behind, ahead, 150)
			}
		}
	}
}

func TestP15_1ScanDoesNotFollow(t *testing.T) {
	for _, ahead := range [][]api.Batch{row(5, 1), row(5, 3), row(5, 1, 1, 1), row(4, 2, 2, 64)} {
		next := nextOf(ahead)
		for _, seq := range []int{1, 2, 4, 5, 6, 7, 8, next - 1, next + 1, next + 2, next + 64, 2 * next, 1 << 40} {
			for _, behind := range []string{"", logOf(row(seq+1, 1)...), logOf(row(next, 1)...), "\x05", "\x00\x00\x00\x00\x00"} {
				if seq == next {
					continue
				}
				scans(t, logOf(ahead...)+logOf(row(seq, 1)...)+behind, ahead, 150)
			}
		}
		scans(t, logOf(ahead...)+logOf(row(next, 1)...), append(copyOf(ahead), row(next, 1)...), api.OK)
		cut := logOf(row(next+1, 1)...)
		scans(t, logOf(ahead...)+cut[:len(cut)-1], ahead, api.ErrTorn) // it would not follow, but is not whole
	}
	last := row(1<<40, 1)
	scans(t, logOf(last...)+logOf(last...), last, 150)
	scans(t, logOf(last...)+logOf(batch(1<<40+1, of(0))), last, 150) // it would follow, but may not be
}

func TestP15_1ScanNoFrame(t *testing.T) {
	huge := number(1<<24+1) + xs(100)
	sum := "\x04" + "\x00\x00\x00\x00" + "\x01\x01\x00\x00"
	for _, ahead := range [][]api.Batch{nil, row(1, 1), row(9, 2, 1)} {
		s := logOf(ahead...)
		for _, c := range []struct {
			behind string
			e      api.Errno
		}{
			{"\x00", 41}, {"\x00\xd2\x02\xef", 41}, {"\x00\x00\x00\x00\x00", 40}, {"\x80", 41}, {"\xff\xff", 41}, {"\x80\x00", 40}, {strings.Repeat("\xff", 9), 41}, {strings.Repeat("\xff", 10), 40}, {huge, 40}, {number(1 << 24), 41}, {number(1<<24) + xs(1000), 41}, {sum, 40}, {sum[:8], 41}, {strings.Repeat("\x00", 1000), 40}, {strings.Repeat("\xff", 1000), 40},
		} {
			scans(t, s+c.behind, ahead, c.e)
		}
	}
	scans(t, logOf(row(1, 1)...)+frameOf(strings.Repeat("\x01", 1<<24)), row(1, 1), 150)
}

func TestP15_6AnyBytes(t *testing.T) {
	r := rand.New(rand.NewSource(3))
	odd := 0
	for range 6000 {
		s := []byte(randomLog(r))
		l, n, e := scanned(t, string(s))
		if n < 0 || n > len(s) {
			t.Fatalf("Scan of %q: %d", s, n)
		}
		if e != api.OK {
			odd++
		}
		again, k, x := Scan(s[:n])
		if !sameBatches(again, l) || k != n || x != api.OK {
			t.Fatalf("Scan of %q: %s, %d, %d; of its first %d bytes: %s, %d, %d", s, short(l), n, e, n, short(again), k, x)
		}
	}
	if odd < 2000 || odd > 5900 {
		t.Errorf("%d of 6000 are odd", odd)
	}
}

// randomLog are bytes that are often nearly those of a log's file.
func randomLog(r *rand.Rand) string {
	l := randomRow(r, 1+r.Intn(300), 6)
	frames := []string{}
	for _, b := range l {
		p := bytesOf(b)
		if r.Intn(12) == 0 {
			p = turned(r, p)
		}
		frames = append(frames, frameOf(p))
	}
	switch n := len(frames); {
	case n > 1 && r.Intn(4) == 0:
		i, k := r.Intn(n), r.Intn(n)
		frames[i], frames[k] = frames[k], frames[i]
	case n > 1 && r.Intn(4) == 0:
		i := r.Intn(n)
		frames = slices.Delete(frames, i, i+1)
	}
	s := strings.Join(frames, "")
	switch r.Intn(4) {
	case 0:
		s = s[:r.Intn(len(s)+1)]
	case 1:
		s = turned(r, s)
	}
	return s
}

// turned are bytes of which some are others, more, or gone.
func turned(r *rand.Rand, s string) string {
	i := r.Intn(len(s) + 1)
	k := i + r.Intn(min(len(s)-i, 3)+1)
	b := make([]byte, r.Intn(3))
	r.Read(b)
	return s[:i] + string(b) + s[k:]
}

// What is handed in stays as it is, and is not kept.
func TestRule4ScanHandedIn(t *testing.T) {
	for _, l := range goodRows() {
		s := logOf(l...)
		b := append([]byte(s), "\x04behind"...)[:len(s)]
		told, _, _ := Scan(b)
		if string(b[:cap(b)][:len(s)+7]) != s+"\x04behind" {
			t.Fatal("Scan changes what is handed in")
		}
		for i := range b {
			b[i] = 0xee
		}
		if !sameBatches(told, l) {
			t.Fatal("Scan keeps what is handed in")
		}
	}
}

// spoil turns all that batches have, and what could stand behind them.
func spoil(l []api.Batch) {
	l = l[:cap(l)]
	for i := range l {
		events := l[i].Events[:cap(l[i].Events)]
		for k := range events {
			fields := events[k].Fields[:cap(events[k].Fields)]
			for j := range fields {
				fields[j] = api.Field{Name: "spoilt", Text: "spoilt"}
			}
			events[k].At = -9
		}
		l[i].Seq = -9
	}
}

// No part of an answer shares memory with another part.
func TestRule4ScanHandedOut(t *testing.T) {
	for _, l := range goodRows() {
		b := []byte(logOf(l...))
		told, _, _ := Scan(b)
		again, _, _ := Scan(b)
		for i := range told {
			spoil(told[i : i+1 : i+1])
			if !sameBatches(told[i+1:], l[i+1:]) {
				t.Fatal("batches of one answer share memory")
			}
		}
		if !sameBatches(again, l) || string(b) != logOf(l...) {
			t.Fatal("answers share memory")
		}
	}
}
