package disk

import (
	"math"
	"math/rand"
	"slices"
	"strconv"
	"strings"
	"testing"

	"loggia/api"
)

// longName is a name of the most bytes.
var longName = strings.Repeat("log-0.1z", 8)

// must holds an error against the one that is asked.
func must(t *testing.T, got, want api.Errno) {
	t.Helper()
	if got != want {
		t.Fatalf("%d, not %d", got, want)
	}
}

// made is a disk of a quota.
func made(t *testing.T, quota int) *Disk {
	t.Helper()
	d, e := New(quota)
	if d == nil || e != api.OK {
		t.Fatalf("New(%d): %v, %d", quota, d, e)
	}
	return d
}

// seeded is a disk without a quota, of files whose bytes are durable up to a stroke in their text.
func seeded(t *testing.T, texts map[string]string) *Disk {
	t.Helper()
	d := made(t, 0)
	for name, text := range texts {
		durable, not, _ := strings.Cut(text, "|")
		must(t, d.Append(name, []byte(durable)), api.OK)
		must(t, d.Sync(name), api.OK)
		must(t, d.Append(name, []byte(not)), api.OK)
	}
	return d
}

// allKept is a restart's row that lets so many files keep all that they have.
func allKept(files int) []int {
	return slices.Repeat([]int{-1}, files)
}

// filesOf are a disk's files, as seeded takes them; of one that has stopped, too: a fork of it that restarts and keeps all tells them.
func filesOf(t *testing.T, d *Disk) map[string]string {
	t.Helper()
	k := d
	if d.Stopped() {
		k = d.Fork()
		k.Restart(allKept(api.MaxFiles)...)
	}
	m := map[string]string{}
	for _, name := range k.List() {
		b, e := k.Read(name, 0, math.MaxInt)
		must(t, e, api.OK)
		n := d.Durable(name)
		m[name] = string(b[:n]) + "|" + string(b[n:])
	}
	return m
}

// checkFiles holds a disk's files against texts.
func checkFiles(t *testing.T, d *Disk, want map[string]string) {
	t.Helper()
	got, used := filesOf(t, d), 0
	for name, text := range want {
		used += len(text) - 1
		if got[name] != text {
			t.Fatalf("the file %q is %.100q, not %.100q", name, got[name], text)
		}
	}
	if len(got) != len(want) || d.Used() != used {
		t.Fatalf("%d files, %d bytes, not %d, %d", len(got), d.Used(), len(want), used)
	}
}

// call is a call of one name, and what it tells.
type call struct {
	what string
	do   func(d *Disk, name string) api.Errno
}

// writingCalls are the writing calls, for a name.
func writingCalls() []call {
	return []call{
		{"Append", func(d *Disk, name string) api.Errno { return d.Append(name, []byte("xy")) }},
		{"Append of nothing", func(d *Disk, name string) api.Errno { return d.Append(name, nil) }},
		{"Sync", func(d *Disk, name string) api.Errno { return d.Sync(name) }},
		{"Rename from", func(d *Disk, name string) api.Errno { return d.Rename(name, "to") }},
		{"Rename to the same", func(d *Disk, name string) api.Errno { return d.Rename(name, name) }},
		{"Remove", func(d *Disk, name string) api.Errno { return d.Remove(name) }},
	}
}

// readOf is a call of Read.
func readOf(from, n int) call {
	return call{"Read", func(d *Disk, name string) api.Errno {
		b, e := d.Read(name, from, n)
		if e != api.OK && len(b) > 0 {
			return -1
		}
		return e
	}}
}

// allCalls are all calls of one name that have an error.
func allCalls() []call {
	return append(writingCalls(), readOf(0, 1), readOf(-1, -1), call{"Rename to", func(d *Disk, name string) api.Errno { return d.Rename("a", name) }})
}

func TestP6_1New(t *testing.T) {
	for _, q := range []int{0, 1, 2, 1 << 26, 1 << 40, math.MaxInt} {
		d, e := New(q)
		if d == nil || e != api.OK || d.Used() != 0 || len(d.List()) != 0 || d.Stopped() || d.Durable("a") != 0 {
			t.Errorf("New(%d): %v, %d", q, d, e)
		}
		if n, ok := d.Size("a"); n != 0 || ok {
			t.Errorf("New(%d) has a file of %d bytes", q, n)
		}
	}
	for _, q := range []int{-1, -2, -1 << 40, math.MinInt} {
		if d, e := New(q); d != nil || e != api.ErrArg {
			t.Errorf("New(%d): %v, %d", q, d, e)
		}
	}
}

func TestP6_1TwoDisksAreApart(t *testing.T) {
	d, k := made(t, 0), made(t, 0)
	must(t, d.Append("a", []byte("ab")), api.OK)
	d.Arm(1)
	must(t, k.Append("b", nil), api.OK)
	checkFiles(t, d, map[string]string{"a": "|ab"})
	checkFiles(t, k, map[string]string{"b": "|"})
}

func TestP6_1QuotaIsJustMet(t *testing.T) {
	d := made(t, 10)
	must(t, d.Append("a", []byte("12345678901")), api.ErrFull)
	must(t, d.Append("a", []byte("1234")), api.OK)
	must(t, d.Append("b", []byte("1234567")), api.ErrFull)
	must(t, d.Append("a", []byte("1234567")), api.ErrFull)
	must(t, d.Append("b", []byte("123456")), api.OK)
	for _, name := range []string{"a", "b", "c"} {
		must(t, d.Append(name, []byte("1")), api.ErrFull)
		must(t, d.Append(name, nil), api.OK)
		must(t, d.Append(name, []byte{}), api.OK)
	}
	checkFiles(t, d, map[string]string{"a": "|1234", "b": "|123456", "c": "|"})
	must(t, d.Sync("b"), api.OK)
	must(t, d.Rename("c", "d"), api.OK)
	must(t, d.Remove("a"), api.OK)
	must(t, d.Append("d", []byte("12345")), api.ErrFull)
	must(t, d.Append("d", []byte("1234")), api.OK)
	checkFiles(t, d, map[string]string{"b": "123456|", "d": "|1234"})
}

func TestP6_1QuotaOfNothing(t *testing.T) {
	d := made(t, 1)
	must(t, d.Append("a", []byte("12")), api.ErrFull)
	must(t, d.Quota(0), api.OK)
	must(t, d.Append("a", make([]byte, 1<<20)), api.OK)
	must(t, d.Append("b", make([]byte, 1<<20)), api.OK)
	if d.Used() != 1<<21 {
		t.Error(d.Used())
	}
}

func TestP6_1QuotaBelowWhatIsUsed(t *testing.T) {
	d := seeded(t, map[string]string{"a": "ab|cd", "b": "1|234"})
	for _, q := range []int{1, 7, 8} {
		must(t, d.Quota(q), api.OK)
		must(t, d.Append("a", []byte("e")), api.ErrFull)
		must(t, d.Append("c", []byte("e")), api.ErrFull)
		must(t, d.Append("a", nil), api.OK)
	}
	checkFiles(t, d, map[string]string{"a": "ab|cd", "b": "1|234"})
	must(t, d.Quota(1), api.OK)
	must(t, d.Append("c", nil), api.OK)
	must(t, d.Sync("a"), api.OK)
	must(t, d.Rename("b", "c"), api.OK)
	checkFiles(t, d, map[string]string{"a": "abcd|", "c": "1|234"})
	must(t, d.Quota(9), api.OK)
	must(t, d.Append("a", []byte("ef")), api.ErrFull)
	must(t, d.Append("a", []byte("e")), api.OK)
	must(t, d.Quota(math.MaxInt), api.OK)
	must(t, d.Append("a", []byte("f")), api.OK)
	checkFiles(t, d, map[string]string{"a": "abcd|ef", "c": "1|234"})
}

func TestP6_1QuotaRefused(t *testing.T) {
	d := made(t, 3)
	for _, q := range []int{-1, math.MinInt} {
		must(t, d.Quota(q), api.ErrArg)
		must(t, d.Append("a", []byte("1234")), api.ErrFull)
	}
	must(t, d.Append("a", []byte("123")), api.OK)
}

func TestP6_1QuotaOfAStoppedDisk(t *testing.T) {
	d := made(t, 3)
	d.Arm(1)
	must(t, d.Append("a", nil), api.ErrCrash)
	must(t, d.Quota(-1), api.ErrArg)
	must(t, d.Quota(4), api.OK)
	d.Restart()
	must(t, d.Append("a", []byte("12345")), api.ErrFull)
	must(t, d.Append("a", []byte("1234")), api.OK)
}

func TestP6_2NamesThatMayBe(t *testing.T) {
	for _, name := range []string{"a", "z", "0", "9", "-", ".", "..", "log-00000001", "manifest.new", alphabet, longName, strings.Repeat(".", 64)} {
		d := made(t, 0)
		must(t, d.Append(name, []byte("ab")), api.OK)
		must(t, d.Sync(name), api.OK)
		must(t, d.Rename(name, "q"), api.OK)
		must(t, d.Rename("q", name), api.OK)
		checkFiles(t, d, map[string]string{name: "ab|"})
		must(t, d.Remove(name), api.OK)
		must(t, d.Sync(name), api.ErrGone)
	}
}

// someOddNames are names that may not be: of no byte, of too many, and with each byte that is not allowed, alone, first, in the middle, last.
func someOddNames() []string {
	l := []string{"", longName + "a", strings.Repeat("a", 128), strings.Repeat("a", 1<<16), "\xc3\xa4", "a\xc3\xa4b"}
	for c := range 256 {
		if s := string([]byte{byte(c)}); !strings.Contains(alphabet, s) {
			l = append(l, s, s+"a", "a"+s+"a", "a"+s, longName[:63]+s)
		}
	}
	return l
}

func TestP6_2NamesThatMayNotBe(t *testing.T) {
	d := seeded(t, map[string]string{"a": "ab|cd"})
	s := d.Fork()
	s.Arm(1)
	must(t, s.Sync("a"), api.ErrCrash)
	for _, name := range someOddNames() {
		for _, c := range allCalls() {
			if e, stopped := c.do(d, name), c.do(s, name); e != api.ErrDisk || stopped != api.ErrDisk {
				t.Fatalf("%s of %.70q: %d, of a disk that has stopped %d", c.what, name, e, stopped)
			}
		}
		if n, ok := d.Size(name); n != 0 || ok || d.Durable(name) != 0 || s.Durable(name) != 0 {
			t.Errorf("there is a file %.70q of %d bytes", name, n)
		}
	}
	checkFiles(t, d, map[string]string{"a": "ab|cd"})
	checkFiles(t, s, map[string]string{"a": "ab|cd"})
}

func TestP6_2EachByteOfAName(t *testing.T) {
	for c := range 256 {
		s, want := string([]byte{byte(c)}), api.OK
		if !strings.Contains(alphabet, s) {
			want = api.ErrDisk
		}
		must(t, made(t, 0).Append(s, nil), want)
	}
}

func TestP6_2Append(t *testing.T) {
	d := made(t, 0)
	must(t, d.Append("a", []byte("ab")), api.OK)
	must(t, d.Append("b", nil), api.OK)
	must(t, d.Append("a", []byte("\x00\xff")), api.OK)
	must(t, d.Append("a", nil), api.OK)
	checkFiles(t, d, map[string]string{"a": "|ab\x00\xff", "b": "|"})
	must(t, d.Sync("a"), api.OK)
	must(t, d.Append("a", []byte("c")), api.OK)
	checkFiles(t, d, map[string]string{"a": "ab\x00\xff|c", "b": "|"})
}

func TestP6_2AppendKeepsNothingOfWhatIsHandedIn(t *testing.T) {
	d := made(t, 0)
	room := []byte("abcdefgh")
	must(t, d.Append("a", room[:2]), api.OK)
	must(t, d.Append("b", room[:2]), api.OK)
	must(t, d.Append("a", []byte("xy")), api.OK)
	if string(room) != "abcdefgh" {
		t.Errorf("what was handed in is %q", room)
	}
	copy(room, "--------")
	checkFiles(t, d, map[string]string{"a": "|abxy", "b": "|ab"})
}

func TestP6_2Sync(t *testing.T) {
	d := seeded(t, map[string]string{"a": "|ab", "b": "1|23", "c": "|", "d": "45|"})
	for name, text := range map[string]string{"a": "ab|", "b": "123|", "c": "|", "d": "45|"} {
		k := d.Fork()
		want := filesOf(t, d)
		want[name] = text
		must(t, k.Sync(name), api.OK)
		checkFiles(t, k, want)
		must(t, k.Sync(name), api.OK)
		checkFiles(t, k, want)
	}
}

func TestP6_2Rename(t *testing.T) {
	d := seeded(t, map[string]string{"a": "ab|cde", "b": "1|2", "z": "|"})
	must(t, d.Rename("a", "m"), api.OK)
	checkFiles(t, d, map[string]string{"m": "ab|cde", "b": "1|2", "z": "|"})
	must(t, d.Rename("m", "b"), api.OK)
	checkFiles(t, d, map[string]string{"b": "ab|cde", "z": "|"})
	must(t, d.Rename("b", "b"), api.OK)
	checkFiles(t, d, map[string]string{"b": "ab|cde", "z": "|"})
	must(t, d.Rename("z", "b"), api.OK)
	checkFiles(t, d, map[string]string{"b": "|"})
	must(t, d.Append("b", []byte("x")), api.OK)
	must(t, d.Append("z", []byte("y")), api.OK)
	checkFiles(t, d, map[string]string{"b": "|x", "z": "|y"})
}

func TestP6_2Remove(t *testing.T) {
	d := seeded(t, map[string]string{"a": "ab|cde", "b": "1|2"})
	must(t, d.Remove("a"), api.OK)
	checkFiles(t, d, map[string]string{"b": "1|2"})
	must(t, d.Remove("a"), api.ErrGone)
	must(t, d.Append("a", []byte("new")), api.OK)
	checkFiles(t, d, map[string]string{"a": "|new", "b": "1|2"})
}

func TestP6_2NoSuchFile(t *testing.T) {
	d := seeded(t, map[string]string{"a": "ab|cde"})
	for _, c := range append(writingCalls()[2:], readOf(0, 1), readOf(-1, 1), readOf(1, 0)) {
		for _, name := range []string{"b", "aa", ".", longName} {
			if e := c.do(d, name); e != api.ErrGone {
				t.Errorf("%s: %d", c.what, e)
			}
		}
	}
	checkFiles(t, d, map[string]string{"a": "ab|cde"})
}

// numbered is the i-th of many names.
func numbered(i int) string {
	return "f-" + strconv.Itoa(i)
}

// fullOfFiles is a disk that has as many files as may be.
func fullOfFiles(t *testing.T) *Disk {
	t.Helper()
	d := made(t, 10)
	for i := range 1024 {
		must(t, d.Append(numbered(i), nil), api.OK)
	}
	return d
}

func TestP6_2MostFiles(t *testing.T) {
	d := fullOfFiles(t)
	must(t, d.Append("more", nil), api.ErrMany)
	must(t, d.Append("more", make([]byte, 11)), api.ErrMany) // ahead of ErrFull
	must(t, d.Append("more", make([]byte, api.MaxFile+1)), api.ErrMany)
	must(t, d.Append(numbered(7), []byte("x")), api.OK)
	must(t, d.Append(numbered(1023), nil), api.OK)
	must(t, d.Rename(numbered(7), "more"), api.OK)
	must(t, d.Append(numbered(7), nil), api.ErrMany)
	must(t, d.Rename("more", numbered(8)), api.OK)
	must(t, d.Append(numbered(7), nil), api.OK)
	must(t, d.Append("more", nil), api.ErrMany)
	must(t, d.Remove(numbered(9)), api.OK)
	must(t, d.Append("more", nil), api.OK)
	must(t, d.Append(numbered(9), nil), api.ErrMany)
	if l := d.List(); len(l) != 1024 || !slices.IsSorted(l) || slices.Contains(l, numbered(9)) {
		t.Errorf("%d files", len(l))
	}
	d.Restart()
	must(t, d.Append(numbered(9), nil), api.ErrMany)
	must(t, d.Fork().Append(numbered(9), nil), api.ErrMany)
}

func TestP6_2LongestFile(t *testing.T) {
	d := made(t, 0)
	most := make([]byte, api.MaxFile+1)
	must(t, d.Append("a", most), api.ErrLong)
	if len(d.List()) != 0 {
		t.Errorf("there is a file %v", d.List())
	}
	must(t, d.Append("a", most[:api.MaxFile]), api.OK)
	must(t, d.Append("a", most[:1]), api.ErrLong)
	must(t, d.Append("a", most), api.ErrLong)
	must(t, d.Append("a", nil), api.OK)
	must(t, d.Append("b", most[:api.MaxFile-1]), api.OK)
	must(t, d.Append("b", most[:2]), api.ErrLong)
	must(t, d.Sync("b"), api.OK)
	must(t, d.Append("b", most[:1]), api.OK)
	must(t, d.Append("b", most[:1]), api.ErrLong)
	if d.Used() != 2*api.MaxFile || d.Durable("a") != 0 || d.Durable("b") != api.MaxFile-1 {
		t.Errorf("%d bytes, durable %d, %d", d.Used(), d.Durable("a"), d.Durable("b"))
	}
	must(t, d.Quota(5), api.OK)
	must(t, d.Append("c", most), api.ErrLong) // ahead of ErrFull
	must(t, d.Append("a", most[:1]), api.ErrLong)
	must(t, d.Append("c", most[:1]), api.ErrFull)
}

func TestP6_2StoppedAheadOfOtherErrors(t *testing.T) {
	d := fullOfFiles(t)
	must(t, d.Append(numbered(0), make([]byte, 10)), api.OK)
	must(t, d.Quota(3), api.OK)
	d.Arm(1)
	must(t, d.Sync(numbered(0)), api.ErrCrash)
	long := make([]byte, api.MaxFile+1)
	for i, e := range []api.Errno{d.Append("more", nil), d.Append("more", long), d.Append(numbered(0), long), d.Append(numbered(0), long[:1]), d.Sync("more"), d.Rename("more", "less"), d.Remove("more")} {
		if e != api.ErrCrash {
			t.Errorf("%d: %d", i, e)
		}
	}
}

func TestP6_2OtherErrorsAheadOfAStop(t *testing.T) {
	d := fullOfFiles(t)
	must(t, d.Append(numbered(0), make([]byte, 10)), api.OK)
	d.Arm(1)
	long := make([]byte, api.MaxFile+1)
	must(t, d.Append("B", nil), api.ErrDisk)
	must(t, d.Append("more", nil), api.ErrMany)
	must(t, d.Append(numbered(1), long), api.ErrLong)
	must(t, d.Append(numbered(1), long[:1]), api.ErrFull)
	must(t, d.Sync("B"), api.ErrDisk)
	must(t, d.Sync("more"), api.ErrGone)
	must(t, d.Rename("more", "B"), api.ErrDisk)
	must(t, d.Rename("B", "more"), api.ErrDisk)
	must(t, d.Rename(numbered(1), "B"), api.ErrDisk)
	must(t, d.Rename("more", numbered(1)), api.ErrGone)
	must(t, d.Rename("more", "more"), api.ErrGone)
	must(t, d.Remove("B"), api.ErrDisk)
	must(t, d.Remove("more"), api.ErrGone)
	if d.Stopped() {
		t.Error("it has stopped at a call of which another error was told")
	}
	must(t, d.Append(numbered(1), nil), api.ErrCrash)
}

func TestP6_3Read(t *testing.T) {
	d := seeded(t, map[string]string{"a": "abc|defg", "b": "|"})
	for _, c := range []struct {
		name    string
		from, n int
		want    string
		e       api.Errno
	}{
		{"a", 0, 0, "", 0}, {"a", 0, 1, "a", 0}, {"a", 0, 6, "abcdef", 0}, {"a", 0, 7, "abcdefg", 0}, {"a", 0, 8, "abcdefg", 0}, {"a", 0, math.MaxInt, "abcdefg", 0},
		{"a", 2, 3, "cde", 0}, {"a", 3, 4, "defg", 0}, {"a", 6, 1, "g", 0}, {"a", 6, 2, "g", 0}, {"a", 1, math.MaxInt, "bcdefg", 0},
		{"a", 7, 0, "", 0}, {"a", 7, 1, "", 0}, {"a", 7, math.MaxInt, "", 0},
		{"a", 8, 0, "", 5}, {"a", 8, 1, "", 5}, {"a", math.MaxInt, 0, "", 5}, {"a", math.MaxInt, math.MaxInt, "", 5},
		{"a", -1, 0, "", 5}, {"a", -1, 3, "", 5}, {"a", math.MinInt, 1, "", 5}, {"a", 0, -1, "", 5}, {"a", 7, -1, "", 5}, {"a", 2, math.MinInt, "", 5}, {"a", -1, -1, "", 5},
		{"b", 0, 0, "", 0}, {"b", 0, 9, "", 0}, {"b", 1, 0, "", 5}, {"b", -1, 0, "", 5}, {"b", 0, -1, "", 5},
		{"c", 0, 0, "", 61}, {"c", -1, -1, "", 61}, {"", 0, 0, "", 60}, {"A", -1, -1, "", 60},
	} {
		if b, e := d.Read(c.name, c.from, c.n); string(b) != c.want || e != c.e || e != api.OK && b != nil {
			t.Errorf("Read of %q, %d, %d: %q, %d, not %q, %d", c.name, c.from, c.n, b, e, c.want, c.e)
		}
	}
}

func TestP6_3ReadIsNewMemory(t *testing.T) {
	d := seeded(t, map[string]string{"a": "abcd|efgh"})
	x, _ := d.Read("a", 1, 4)
	y, _ := d.Read("a", 1, 4)
	copy(x, "----")
	_ = append(x[:0:cap(x)], slices.Repeat([]byte("-"), cap(x))...)
	if string(y) != "bcde" {
		t.Errorf("another answer is %q", y)
	}
	checkFiles(t, d, map[string]string{"a": "abcd|efgh"})
	must(t, d.Append("a", []byte("ij")), api.OK)
	d.Restart()
	must(t, d.Append("a", []byte("xyz")), api.OK)
	if string(y) != "bcde" || string(x) != "----" {
		t.Errorf("answers are %q, %q", x, y)
	}
}

func TestP6_3ListIsRisingAndNewMemory(t *testing.T) {
	rising := []string{"-", ".", "0", "9", "a", "a-", "a.", "a0", "aa", "b", longName, "m", "z"}
	d := made(t, 0)
	for i := range rising {
		must(t, d.Append(rising[(i*5+3)%len(rising)], nil), api.OK)
	}
	l := d.List()
	if !slices.Equal(l, rising) {
		t.Fatalf("%q, not %q", l, rising)
	}
	clear(l)
	if l = d.List(); !slices.Equal(l, rising) {
		t.Errorf("%q, not %q", l, rising)
	}
}

func TestP6_3SizeUsedDurable(t *testing.T) {
	d := seeded(t, map[string]string{"a": "abc|defg", "b": "|", "c": "|12", "d": "34|"})
	for _, c := range []struct {
		name          string
		size, durable int
		ok            bool
	}{
		{"a", 7, 3, true}, {"b", 0, 0, true}, {"c", 2, 0, true}, {"d", 2, 2, true}, {"e", 0, 0, false}, {"", 0, 0, false}, {"A", 0, 0, false},
	} {
		n, ok := d.Size(c.name)
		if n != c.size || ok != c.ok || d.Durable(c.name) != c.durable {
			t.Errorf("%q has %d, %v, %d", c.name, n, ok, d.Durable(c.name))
		}
	}
	if d.Used() != 11 {
		t.Error(d.Used())
	}
}

func TestP6_3OfAStoppedDisk(t *testing.T) {
	d := seeded(t, map[string]string{"a": "abc|defg", "b": "|12"})
	d.Arm(1)
	must(t, d.Sync("a"), api.ErrCrash)
	for _, name := range []string{"a", "b", "c"} {
		for _, c := range append(writingCalls(), readOf(0, 1), readOf(-1, 0), readOf(9, 0), readOf(0, -1)) {
			if e := c.do(d, name); e != api.ErrCrash {
				t.Errorf("%s: %d", c.what, e)
			}
		}
		if n, ok := d.Size(name); n != 0 || ok {
			t.Errorf("Size: %d, %v", n, ok)
		}
	}
	if len(d.List()) != 0 || d.Used() != 9 || d.Durable("a") != 3 || d.Durable("b") != 0 || d.Durable("c") != 0 {
		t.Errorf("%q, %d, %d, %d", d.List(), d.Used(), d.Durable("a"), d.Durable("b"))
	}
	checkFiles(t, d, map[string]string{"a": "abc|defg", "b": "|12"})
}

// At whichever writing call the disk stops, that call does nothing.
func TestP6_4StopsAtEachWritingCall(t *testing.T) {
	was := map[string]string{"a": "ab|cd", "b": "1|2", "to": "|"}
	calls := append(writingCalls(), call{"Append to a new file", func(d *Disk, _ string) api.Errno { return d.Append("new", []byte("x")) }},
		call{"Append of nothing to a new file", func(d *Disk, _ string) api.Errno { return d.Append("new", nil) }},
		call{"Rename to a new name", func(d *Disk, name string) api.Errno { return d.Rename(name, "new") }})
	for _, c := range calls {
		d := seeded(t, was)
		d.Arm(1)
		if d.Stopped() {
			t.Errorf("it has stopped ahead of %s", c.what)
		}
		if e := c.do(d, "a"); e != api.ErrCrash || !d.Stopped() {
			t.Errorf("%s: %d", c.what, e)
		}
		checkFiles(t, d, was)
		if e := c.do(d, "a"); e != api.ErrCrash || !d.Stopped() {
			t.Errorf("%s, once more: %d", c.what, e)
		}
		checkFiles(t, d, was)
		d.Restart(allKept(3)...)
		if e := c.do(d, "a"); e != api.OK || d.Stopped() {
			t.Errorf("%s, behind Restart: %d", c.what, e)
		}
	}
}

func TestP6_4ArmCountsWritingCalls(t *testing.T) {
	for n := 1; n < 20; n++ {
		d := seeded(t, map[string]string{"a": "|", "b": "|"})
		d.Arm(n)
		calls := writingCalls()[:3] // those that leave the file where it is
		for i := 1; i < n; i++ {
			must(t, calls[i%3].do(d, "a"), api.OK)
			must(t, d.Sync("none"), api.ErrGone)
			must(t, d.Append("A", nil), api.ErrDisk)
			must(t, d.Quota(i), api.OK)
			must(t, d.Quota(0), api.OK)
			must(t, readOf(0, 1).do(d, "a"), api.OK)
			d.Size("a")
			d.List()
			d.Used()
			d.Durable("a")
			d.Fork().Append("a", nil)
			if d.Stopped() {
				t.Fatalf("it has stopped behind %d calls, not %d", i, n)
			}
		}
		must(t, calls[n%3].do(d, "a"), api.ErrCrash)
		if !d.Stopped() {
			t.Errorf("it has not stopped behind %d calls", n)
		}
	}
}

func TestP6_4ArmedAlready(t *testing.T) {
	d := made(t, 0)
	d.Arm(3)
	must(t, d.Append("a", nil), api.OK)
	d.Arm(2)
	must(t, d.Append("a", nil), api.OK)
	d.Arm(4)
	for range 3 {
		must(t, d.Append("a", nil), api.OK)
	}
	for _, n := range []int{0, -1, math.MinInt} {
		d.Arm(1)
		d.Arm(n)
		for range 5 {
			must(t, d.Append("a", nil), api.OK)
		}
	}
	d.Arm(math.MaxInt)
	must(t, d.Append("a", nil), api.OK)
	d.Arm(1)
	must(t, d.Append("a", nil), api.ErrCrash)
}

func TestP6_4ArmOfAStoppedDisk(t *testing.T) {
	for _, n := range []int{-1, 0, 1, 2, math.MaxInt} {
		d := made(t, 0)
		must(t, d.Append("a", []byte("x")), api.OK)
		d.Arm(1)
		must(t, d.Sync("a"), api.ErrCrash)
		d.Arm(n)
		if !d.Stopped() {
			t.Errorf("Arm(%d) lets it go on", n)
		}
		must(t, d.Sync("a"), api.ErrCrash)
		d.Restart(1)
		for range 5 {
			must(t, d.Sync("a"), api.OK)
		}
	}
}

func TestP6_4RestartIsNotArmed(t *testing.T) {
	d := made(t, 0)
	d.Arm(2)
	must(t, d.Append("a", []byte("ab")), api.OK)
	d.Restart()
	for range 5 {
		must(t, d.Append("a", nil), api.OK)
	}
	checkFiles(t, d, map[string]string{"a": "|"})
}

func TestP6_4Example(t *testing.T) {
	d := made(t, 0)
	must(t, d.Append("a", []byte("ab")), api.OK)
	must(t, d.Sync("a"), api.OK)
	must(t, d.Append("a", []byte("cd")), api.OK)
	d.Restart(1)
	checkFiles(t, d, map[string]string{"a": "abc|"})
}

func TestP6_4RestartKeeps(t *testing.T) {
	const not = "defghij" // seven bytes: modulo eight
	for _, c := range []struct{ keep, left int }{
		{0, 0}, {1, 1}, {2, 2}, {6, 6}, {7, 7}, {8, 0}, {9, 1}, {15, 7}, {16, 0}, {803, 3}, {math.MaxInt, 7}, {math.MaxInt - 7, 0},
		{-1, 7}, {-2, 6}, {-7, 1}, {-8, 0}, {-9, 7}, {-801, 7}, {math.MinInt, 0}, {math.MinInt + 1, 1},
	} {
		for _, durable := range []string{"", "abc"} {
			d := seeded(t, map[string]string{"a": durable + "|" + not})
			d.Restart(c.keep)
			checkFiles(t, d, map[string]string{"a": durable + not[:c.left] + "|"})
		}
	}
}

func TestP6_4RestartWithoutLostBytes(t *testing.T) {
	for _, keep := range []int{0, 1, -1, math.MaxInt, math.MinInt} {
		d := seeded(t, map[string]string{"a": "abc|", "b": "|"})
		d.Restart(keep, keep)
		checkFiles(t, d, map[string]string{"a": "abc|", "b": "|"})
	}
}

// The numbers go by the order of names, whatever order the files came in.
func TestP6_4RestartByNames(t *testing.T) {
	was := map[string]string{"b": "1|23456", "-": "|23456", "a.": "12|3456", "0": "|2345678", "a": "123|456"}
	for _, c := range []struct {
		keep []int
		want map[string]string
	}{
		{nil, map[string]string{"-": "|", "0": "|", "a": "123|", "a.": "12|", "b": "1|"}},
		{[]int{1}, map[string]string{"-": "2|", "0": "|", "a": "123|", "a.": "12|", "b": "1|"}},
		{[]int{0, 0, 0, 0, 5}, map[string]string{"-": "|", "0": "|", "a": "123|", "a.": "12|", "b": "123456|"}},
		{[]int{1, 2, 3, 4, 5}, map[string]string{"-": "2|", "0": "23|", "a": "123456|", "a.": "123456|", "b": "123456|"}},
		{[]int{-1, -2, -3, -4, -5}, map[string]string{"-": "23456|", "0": "234567|", "a": "1234|", "a.": "123|", "b": "12|"}},
		{[]int{6, 7, 8, 9, 10, 11, 12}, map[string]string{"-": "|", "0": "2345678|", "a": "123|", "a.": "123456|", "b": "12345|"}},
	} {
		d, keep := seeded(t, was), slices.Clone(c.keep)
		d.Restart(keep...)
		checkFiles(t, d, c.want)
		if !slices.Equal(keep, c.keep) {
			t.Errorf("what was handed in is %v, not %v", keep, c.keep)
		}
	}
}

func TestP6_4WhatIsAppendedBehindARestart(t *testing.T) {
	d := seeded(t, map[string]string{"a": "ab|cdef"})
	d.Arm(1)
	must(t, d.Append("a", []byte("gh")), api.ErrCrash)
	d.Restart(2)
	must(t, d.Append("a", []byte("xyz")), api.OK)
	checkFiles(t, d, map[string]string{"a": "abcd|xyz"})
	d.Restart(1)
	checkFiles(t, d, map[string]string{"a": "abcdx|"})
}

func TestP6_4RestartFreesRoom(t *testing.T) {
	d := made(t, 6)
	must(t, d.Append("a", []byte("abcdef")), api.OK)
	d.Restart(2)
	must(t, d.Append("a", []byte("12345")), api.ErrFull)
	must(t, d.Append("a", []byte("1234")), api.OK)
}

func TestP6_5ForksAreApart(t *testing.T) {
	was := map[string]string{"a": "ab|cd", "b": "1|2", "c": "|"}
	for _, c := range writingCalls() {
		d := seeded(t, was)
		k := d.Fork()
		must(t, c.do(k, "a"), api.OK)
		checkFiles(t, d, was)
		k = d.Fork()
		must(t, c.do(d, "a"), api.OK)
		checkFiles(t, k, was)
	}
	d := seeded(t, was)
	k := d.Fork()
	k.Restart()
	checkFiles(t, d, was)
	k = d.Fork()
	d.Restart()
	checkFiles(t, k, was)
	d.Arm(1)
	must(t, k.Sync("a"), api.OK)
	must(t, k.Quota(1), api.OK)
	d.Arm(0)
	must(t, d.Append("a", []byte("xyz")), api.OK)
	must(t, k.Append("a", []byte("xyz")), api.ErrFull)
}

// Bytes that come behind those of a file and of its fork's are no one another's, whatever room the file had.
func TestP6_5ForksShareNoMemory(t *testing.T) {
	d := made(t, 0)
	for i := range 200 {
		must(t, d.Append("a", []byte{'x'}), api.OK)
		k := d.Fork()
		l := k.Fork()
		must(t, k.Append("a", []byte("kk")), api.OK)
		must(t, l.Append("a", []byte("ll")), api.OK)
		all := strings.Repeat("x", i+1)
		checkFiles(t, k, map[string]string{"a": "|" + all + "kk"})
		checkFiles(t, l, map[string]string{"a": "|" + all + "ll"})
		checkFiles(t, d, map[string]string{"a": "|" + all})
		k.Restart(1)
		must(t, k.Append("a", []byte(strings.Repeat("y", i))), api.OK)
		checkFiles(t, d, map[string]string{"a": "|" + all})
	}
}

func TestP6_5ForkOfAnArmedDisk(t *testing.T) {
	d := made(t, 5)
	d.Arm(3)
	must(t, d.Append("a", []byte("ab")), api.OK)
	k := d.Fork()
	for _, x := range []*Disk{k, d, k.Fork()} {
		if x.Stopped() {
			t.Fatal("it has stopped by another one's calls")
		}
		l := x.Fork()
		must(t, x.Append("a", []byte("1234")), api.ErrFull)
		must(t, x.Append("a", nil), api.OK)
		must(t, x.Sync("a"), api.ErrCrash)
		l.Arm(0)
		for range 5 {
			must(t, l.Sync("a"), api.OK)
		}
	}
}

func TestP6_5ForkOfAStoppedDisk(t *testing.T) {
	d := seeded(t, map[string]string{"a": "ab|cd"})
	d.Arm(1)
	must(t, d.Sync("a"), api.ErrCrash)
	k := d.Fork()
	if !k.Stopped() || len(k.List()) != 0 || k.Used() != 4 || k.Durable("a") != 2 {
		t.Errorf("%v, %q, %d, %d", k.Stopped(), k.List(), k.Used(), k.Durable("a"))
	}
	must(t, k.Sync("a"), api.ErrCrash)
	k.Restart(1)
	if !d.Stopped() {
		t.Error("it goes on by another one's Restart")
	}
	must(t, k.Append("a", []byte("x")), api.OK)
	checkFiles(t, k, map[string]string{"a": "abc|x"})
	checkFiles(t, d, map[string]string{"a": "ab|cd"})
}

func TestP6_5NobodyMadeIt(t *testing.T) {
	for _, d := range []*Disk{nil, {}, new(Disk)} {
		for range 2 { // once more behind calls that would arm a disk, and restart it
			for _, name := range []string{"a", "", "A", longName + "a"} {
				for _, c := range allCalls() {
					if e := c.do(d, name); e != api.ErrNil {
						t.Errorf("%s: %d", c.what, e)
					}
				}
				if n, ok := d.Size(name); n != 0 || ok || d.Durable(name) != 0 {
					t.Errorf("Size: %d, %v", n, ok)
				}
			}
			for _, q := range []int{math.MinInt, -1, 0, 1} {
				must(t, d.Quota(q), api.ErrNil)
			}
			must(t, d.Append("a", make([]byte, api.MaxFile+1)), api.ErrNil)
			if len(d.List()) != 0 || d.Used() != 0 || d.Stopped() || d.Fork() != nil {
				t.Errorf("%q, %d, %v, %v", d.List(), d.Used(), d.Stopped(), d.Fork())
			}
			d.Arm(1)
			d.Restart()
			d.Restart(1, 2)
			d.Arm(1)
		}
	}
}

// someNames are names of files, few, so that calls meet; the last three may not be.
var someNames = []string{"a", "b", "-", "log-1", longName, "B", "", longName + "a"}

// twin is a disk, and one that does by the chapter's words what it is to do.
type twin struct {
	d *Disk
	p *plain
}

// aName is one of someNames that a seed tells, seldom one that may not be.
func aName(r *rand.Rand) string {
	if r.Intn(12) == 0 {
		return someNames[r.Intn(len(someNames))]
	}
	return someNames[r.Intn(5)]
}

// someKeep are numbers for Restart.
func someKeep(r *rand.Rand) []int {
	l := []int{}
	for range r.Intn(8) {
		l = append(l, r.Intn(60)-20)
	}
	return l
}

// step does the same with both, whatever a seed tells, and holds the errors against each other.
func (w *twin) step(t *testing.T, r *rand.Rand) {
	t.Helper()
	name, to, b := aName(r), aName(r), strings.Repeat(string(rune('a'+r.Intn(26))), r.Intn(6))
	var got, want api.Errno
	what := r.Intn(20)
	switch what {
	default:
		got, want = w.d.Append(name, []byte(b)), w.p.append(name, b)
	case 7, 8, 9:
		got, want = w.d.Sync(name), w.p.sync(name)
	case 10, 11, 12:
		got, want = w.d.Rename(name, to), w.p.rename(name, to)
	case 13, 14:
		got, want = w.d.Remove(name), w.p.remove(name)
	case 15:
		w.p.quota = r.Intn(3) * r.Intn(40)
		got = w.d.Quota(w.p.quota)
	case 16:
		w.p.calls = max(0, r.Intn(12)-1)
		w.d.Arm(w.p.calls)
	case 17:
		keep := someKeep(r)
		w.d.Restart(keep...)
		w.p.restart(keep...)
	case 18:
		if w.p.stopped {
			w.d.Restart()
			w.p.restart()
		}
	}
	if got != want {
		t.Fatalf("%d, of %q, %q, %q: %d, not %d", what, name, to, b, got, want)
	}
}

// check holds all that both tell against each other.
func (w *twin) check(t *testing.T, r *rand.Rand) {
	t.Helper()
	if w.d.Stopped() != w.p.stopped || w.d.Used() != w.p.used() || !slices.Equal(w.d.List(), w.p.list()) {
		t.Fatalf("%v, %d, %q, not %v, %d, %q", w.d.Stopped(), w.d.Used(), w.d.List(), w.p.stopped, w.p.used(), w.p.list())
	}
	for _, name := range someNames {
		n, ok := w.d.Size(name)
		m, want := w.p.size(name)
		if n != m || ok != want || w.d.Durable(name) != w.p.durable(name) {
			t.Fatalf("%q has %d, %v, %d, not %d, %v, %d", name, n, ok, w.d.Durable(name), m, want, w.p.durable(name))
		}
		for _, place := range [][2]int{{0, math.MaxInt}, {r.Intn(20) - 3, r.Intn(20) - 3}} {
			b, e := w.d.Read(name, place[0], place[1])
			s, why := w.p.read(name, place[0], place[1])
			if string(b) != s || e != why {
				t.Fatalf("Read of %q, %v: %q, %d, not %q, %d", name, place, b, e, s, why)
			}
		}
	}
}

func TestP6_5ByTheWords(t *testing.T) {
	for seed := range int64(400) {
		r := rand.New(rand.NewSource(seed))
		quota := r.Intn(2) * r.Intn(50)
		twins := []twin{{made(t, quota), &plain{quota: quota}}}
		for range 300 {
			i := r.Intn(len(twins))
			w := &twins[i]
			w.step(t, r)
			if r.Intn(30) == 0 && len(twins) < 4 {
				twins = append(twins, twin{w.d.Fork(), w.p.fork()})
			}
			for i := range twins {
				twins[i].check(t, r)
			}
		}
	}
}

// isLeft tells whether a file's text, with a stroke behind what is durable, may be what a restart left of another one.
func isLeft(text, was string) bool {
	durable, not, _ := strings.Cut(was, "|")
	left, none, _ := strings.Cut(text, "|")
	return none == "" && strings.HasPrefix(left, durable) && strings.HasPrefix(durable+not, left)
}

func TestP6_6WhatIsDurableIsLeft(t *testing.T) {
	for seed := range int64(300) {
		r := rand.New(rand.NewSource(seed))
		w := twin{made(t, 0), &plain{}}
		for range 60 {
			w.step(t, r)
		}
		was := filesOf(t, w.d)
		w.d.Restart(someKeep(r)...)
		left := filesOf(t, w.d)
		for name, text := range was {
			if !isLeft(left[name], text) {
				t.Fatalf("of %q is left %q", text, left[name])
			}
		}
		if len(left) != len(was) {
			t.Fatalf("%d files, not %d", len(left), len(was))
		}
		w.d.Restart(someKeep(r)...)
		checkFiles(t, w.d, left)
	}
}

func TestP6_7NeverMoreThanTheQuota(t *testing.T) {
	for seed := range int64(200) {
		r := rand.New(rand.NewSource(seed))
		quota := 1 + r.Intn(40)
		d := made(t, quota)
		for range 200 {
			name, b := aName(r), make([]byte, r.Intn(12))
			was := d.Used()
			fits := was+len(b) <= quota || len(b) == 0
			if e := d.Append(name, b); (e == api.ErrFull) == fits && isName(name) && !d.Stopped() {
				t.Fatalf("%d bytes behind %d of %d: %d", len(b), was, quota, e)
			}
			switch r.Intn(9) {
			case 0:
				d.Rename(name, aName(r))
			case 1:
				d.Remove(name)
			case 2:
				d.Sync(name)
			case 3:
				d.Arm(r.Intn(5))
			case 4:
				d.Restart(someKeep(r)...)
			case 5:
				d = d.Fork()
			}
			if d.Used() > quota {
				t.Fatalf("%d bytes of %d", d.Used(), quota)
			}
		}
	}
}

func TestP6_8RefusedCallsChangeNothing(t *testing.T) {
	refusedOnes := 0
	for seed := range int64(300) {
		r := rand.New(rand.NewSource(seed))
		w := twin{made(t, 30), &plain{quota: 30}}
		for range 60 {
			w.step(t, r)
		}
		was, stopped, calls := filesOf(t, w.d), w.d.Stopped(), w.p.calls
		for _, c := range allCalls() {
			k := w.d.Fork()
			name := aName(r)
			if c.do(k, name) == api.OK {
				continue
			}
			refusedOnes++
			checkFiles(t, k, was)
			if k.Stopped() != stopped && calls != 1 {
				t.Fatalf("%s of %q stops the disk", c.what, name)
			}
		}
	}
	if refusedOnes < 300 {
		t.Errorf("only %d calls were refused", refusedOnes)
	}
}

func TestP6_8RefusedByLimits(t *testing.T) {
	d := fullOfFiles(t)
	must(t, d.Append(numbered(5), []byte("abcd")), api.OK)
	was := filesOf(t, d)
	must(t, d.Append("more", nil), api.ErrMany)
	must(t, d.Append(numbered(5), make([]byte, api.MaxFile)), api.ErrLong)
	must(t, d.Append(numbered(6), make([]byte, 7)), api.ErrFull)
	must(t, d.Quota(-1), api.ErrArg)
	must(t, d.Append(numbered(6), make([]byte, 7)), api.ErrFull)
	checkFiles(t, d, was)
}
