package manifest

import (
	"math"
	"math/rand"
	"slices"
	"strings"
	"testing"

	"loggia/api"
)

// oddIDs are numbers that stand in no name.
var oddIDs = []int{0, -1, -7, -99999999, -100000000, 100000000, 100000001, 123456789, 1 << 32, 1<<32 + 7, 1 << 40, math.MaxInt, math.MinInt + 1, math.MinInt}

func TestP16_3File(t *testing.T) {
	for n, want := range map[int]string{1: "00000001", 7: "00000007", 10: "00000010", 12345: "00012345", 9999999: "09999999", 10000000: "10000000", 12345678: "12345678", 99999998: "99999998", 99999999: "99999999"} {
		for state, begin := range map[api.State]string{api.Sealed: "seg-", api.Frozen: "ice-"} {
			for _, p := range []api.Part{{ID: n, State: state}, {ID: n, State: state, Low: 5, High: -5, First: -1, Last: math.MinInt, N: -3}, {ID: n, State: state, First: 3, Last: 9, N: 7}} {
				if s := File(p); s != begin+want {
					t.Errorf("File of %+v: %q", p, s)
				}
			}
		}
		for _, state := range []api.State{api.NoState, api.Hot, 4, 5, -1, -2, 1<<32 + 2, math.MaxInt, math.MinInt} {
			if s := File(api.Part{ID: n, State: state}); s != "" {
				t.Errorf("File of %d, %d: %q", n, state, s)
			}
		}
	}
	for _, n := range oddIDs {
		for _, state := range []api.State{api.Sealed, api.Frozen, api.Hot, api.NoState} {
			if s := File(api.Part{ID: n, State: state}); s != "" {
				t.Errorf("File of %d, %d: %q", n, state, s)
			}
		}
	}
}

func TestP16_3Log(t *testing.T) {
	for n, want := range map[int]string{1: "log-00000001", 9: "log-00000009", 12: "log-00000012", 100: "log-00000100", 1000000: "log-01000000", 12345678: "log-12345678", 99999998: "log-99999998", 99999999: "log-99999999"} {
		if s := Log(n); s != want {
			t.Errorf("Log(%d): %q", n, s)
		}
		if k, ok := LogOf(want); k != n || !ok {
			t.Errorf("LogOf(%q): %d, %v", want, k, ok)
		}
	}
	for _, n := range oddIDs {
		if s := Log(n); s != "" {
			t.Errorf("Log(%d): %q", n, s)
		}
	}
	for n := 1; n < 100000000; n += 9973 {
		s, file := Log(n), File(api.Part{ID: n, State: api.Frozen})
		if k, ok := LogOf(s); s != plainName("log", n) || file != plainName("ice", n) || k != n || !ok {
			t.Fatalf("%d: %q, %q, %d, %v", n, s, file, k, ok)
		}
	}
}

// noLogs are names of no log.
func noLogs() []string {
	return []string{
		"", "l", "log", "log-", "log-00000000", "log-7", "log-0000007", "log-000000007", "log-100000000", "log-0000000", "log-000000000", "log-99999999999999999999", "log-18446744073709551617", "00000007", "-0000007", "0", "7", "0000000000007", "log00000007", "log_00000007", "log--0000007", "log-+0000007", "log--00000007", "log-+00000007", "log- 0000007", "log-0000007 ", "log-00000007 ", " log-00000007", "log-00000007\n", "log-00000007\x00",
		"log-0000000a", "log-a0000000", "log-0x000007", "log-0b000001", "log-0_000_07", "log-000_0007", "log-0000.007", "log-00000e07", "log-0000007.", "Log-00000007", "LOG-00000007", "lof-00000007", "log-log-00000007", "log-log-0000", "xlog-00000007", "seg-00000007", "ice-00000007", "manifest", "manifest.new", "log-00000007.new", "log-0000000\xd9\xa7", "log-\xd9\xa0\xd9\xa0\xd9\xa0\xd9\xa7", "log-000000\xff7", "log-" + strings.Repeat("0", 100), "log-" + strings.Repeat("9", 5000), strings.Repeat("log-", 3), strings.Repeat("0", 12),
	}
}

func TestP16_3LogOfNone(t *testing.T) {
	for _, s := range noLogs() {
		if n, ok := LogOf(s); n != 0 || ok {
			t.Errorf("LogOf(%q): %d, %v", s, n, ok)
		}
	}
}

// One byte of a name is another one: only digits in place of digits make a name.
func TestP16_3LogOfTurned(t *testing.T) {
	for _, name := range []string{"log-00000001", "log-00000007", "log-12345678", "log-99999999"} {
		for i := range name {
			for c := range 256 {
				s := name[:i] + string([]byte{byte(c)}) + name[i+1:]
				want, isName := plainLogOf(s)
				if n, ok := LogOf(s); n != want || ok != isName {
					t.Errorf("LogOf(%q): %d, %v", s, n, ok)
				}
			}
			if n, ok := LogOf(name[:i] + name[i+1:]); n != 0 || ok {
				t.Errorf("LogOf of %q without the byte %d: %d, %v", name, i, n, ok)
			}
		}
	}
}

// orphaned holds what Orphans answers against what is asked, and against the model.
func orphaned(t *testing.T, m api.Manifest, names []string, want ...string) {
	t.Helper()
	was, own := copyOf(m), slices.Clone(names)
	l := Orphans(m, names...)
	if plain := plainOrphans(m, names...); !slices.Equal(l, want) || !slices.Equal(plain, want) {
		t.Fatalf("Orphans of %s: %.500q, not %.500q; the model: %.500q", short(m), l, want, plain)
	}
	if !plainSame(m, was) || !slices.Equal(names, own) {
		t.Fatal("Orphans changes what is handed in")
	}
}

func TestP16_4Orphans(t *testing.T) {
	m := known() // seg-00000002, ice-00000003, seg-00000007, and logs from 12 on
	orphaned(t, m, nil)
	orphaned(t, m, []string{"manifest", "seg-00000002", "ice-00000003", "seg-00000007", "log-00000012", "log-00000013", "log-99999999", "other", ""})
	orphaned(t, m, []string{"manifest.new"}, "manifest.new")
	orphaned(t, m, []string{"log-00000013", "log-00000011", "log-00000012", "log-00000001"}, "log-00000011", "log-00000001")
	orphaned(t, m, []string{"ice-00000002", "seg-00000003", "ice-00000007", "seg-00000001", "ice-99999999", "seg-00000000"}, "ice-00000002", "seg-00000003", "ice-00000007", "seg-00000001", "ice-99999999", "seg-00000000")
	// Whatever stands behind seg- and ice-.
	orphaned(t, m, []string{"seg-", "ice-", "seg-2", "seg-00000002.new", "seg-0000002", "seg-000000002", "ice-00000003x", "seg-seg-00000002"}, "seg-", "ice-", "seg-2", "seg-00000002.new", "seg-0000002", "seg-000000002", "ice-00000003x", "seg-seg-00000002")
	// Names that nearly are so.
	orphaned(t, m, []string{"seg", "ice", "segm-00000001", "Seg-00000001", "xseg-00000001", " seg-00000001", "seg00000001", "seg_00000001", "iced-1", "manifest.new2", "manifest.ne", "manifest.new ", "amanifest.new", "Manifest.new", "manifest."})
	orphaned(t, m, noLogs(), "ice-00000007", "manifest.new")
}

func TestP16_4OrphansInOrder(t *testing.T) {
	m := known()
	orphaned(t, m, []string{"z", "seg-00000009", "log-00000003", "seg-00000002", "manifest.new", "ice-00000001", "log-00000003", "manifest.new", "a", "ice-00000001"}, "seg-00000009", "log-00000003", "manifest.new", "ice-00000001", "log-00000003", "manifest.new", "ice-00000001")
}

// Manifests that may not be: what may have no name keeps none.
func TestP16_4OrphansOfAny(t *testing.T) {
	names := []string{"", "seg-", "ice-", "seg-00000001", "ice-00000001", "log-00000000", "log-00000001", "log-99999999", "manifest"}
	for _, log := range []int{math.MinInt, -1, 0, 1} {
		orphaned(t, api.Manifest{Log: log}, names, "seg-", "ice-", "seg-00000001", "ice-00000001")
	}
	for _, log := range []int{2, 99999999} {
		orphaned(t, api.Manifest{Log: log}, names, "seg-", "ice-", "seg-00000001", "ice-00000001", "log-00000001")
	}
	for _, log := range []int{100000000, math.MaxInt} {
		orphaned(t, api.Manifest{Log: log}, names, "seg-", "ice-", "seg-00000001", "ice-00000001", "log-00000001", "log-99999999")
	}
	odd := []api.Part{{}, {ID: 1}, {ID: 1, State: api.Hot}, {ID: 0, State: api.Sealed}, {ID: -1, State: api.Frozen}, {ID: 100000000, State: api.Sealed}}
	orphaned(t, api.Manifest{Parts: odd}, names, "seg-", "ice-", "seg-00000001", "ice-00000001")
	odd = append(odd, api.Part{ID: 1, State: api.Frozen, N: -4}, api.Part{ID: 1, State: api.Sealed}, api.Part{ID: 1, State: api.Sealed})
	orphaned(t, api.Manifest{Parts: odd}, names, "seg-", "ice-")
	orphaned(t, New(), names, "seg-", "ice-", "seg-00000001", "ice-00000001")
}

func TestP16_4OrphansByChance(t *testing.T) {
	r := rand.New(rand.NewSource(7))
	orphans, others := 0, 0
	for range 2000 {
		m := api.Manifest{Log: r.Intn(12)}
		for range r.Intn(8) {
			m.Parts = append(m.Parts, api.Part{ID: r.Intn(12), State: api.State(r.Intn(5))})
		}
		var names []string
		for range r.Intn(20) {
			begin, number := []string{"seg", "ice", "log", "manifest"}[r.Intn(4)], r.Intn(12)
			name := plainName(begin, number) + []string{"", "", "", "", ".new", "0"}[r.Intn(6)]
			if begin == "manifest" {
				name = begin + []string{"", ".new", ".old"}[r.Intn(3)]
			}
			names = append(names, name)
		}
		want := plainOrphans(m, names...)
		orphaned(t, m, names, want...)
		orphans += len(want)
		others += len(names) - len(want)
	}
	if orphans < 1000 || others < 1000 {
		t.Error(orphans, others)
	}
}

func TestP16_4OrphansOfMany(t *testing.T) {
	m := full(512)
	var names, want []string
	for i := range 1024 {
		names = append(names, plainName("seg", 1024-i), plainName("log", 1+i))
		if 1024-i > 512 {
			want = append(want, plainName("seg", 1024-i))
		}
	}
	orphaned(t, m, names, want...)
	odd := api.Manifest{Parts: make([]api.Part, 1<<18)}
	for i := range odd.Parts {
		odd.Parts[i] = api.Part{ID: 1 + i, State: api.Frozen}
	}
	l := Orphans(odd, slices.Repeat([]string{"ice-00262144", "ice-00262145"}, 1<<16)...)
	if len(l) != 1<<16 || l[0] != "ice-00262145" || l[1<<16-1] != "ice-00262145" {
		t.Error(len(l))
	}
}
