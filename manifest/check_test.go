package manifest

import (
	"math"
	"math/rand"
	"slices"
	"testing"

	"loggia/api"
)

// checked holds what Check answers against the model, and answers it.
func checked(t *testing.T, m api.Manifest) api.Errno {
	t.Helper()
	e, want := Check(m), plainCheck(m)
	if e != want {
		t.Fatalf("Check of %s: %d, not %d", short(m), e, want)
	}
	return e
}

func TestP16_1New(t *testing.T) {
	m := New()
	if len(m.Parts) > 0 || m.Floor != -1<<63 || m.Now != -1<<63 || m.Done != 0 || m.Log != 1 || m.Next != 1 {
		t.Error(short(m))
	}
	must(t, Check(m), api.OK)
	m.Parts, m.Floor = append(m.Parts, sealedPart(1, 1, 1)), 9
	same(t, New(), api.Manifest{Floor: math.MinInt, Log: 1, Next: 1, Now: math.MinInt})
}

// Each number at its ends, and one past them.
func TestP16_1CheckEnds(t *testing.T) {
	of := func(turn func(m *api.Manifest)) api.Manifest {
		m := known()
		turn(&m)
		return m
	}
	last := func(turn func(p *api.Part, m *api.Manifest)) api.Manifest {
		return of(func(m *api.Manifest) { turn(&m.Parts[2], m) })
	}
	for i, c := range []struct {
		m     api.Manifest
		mayBe bool
	}{
		{known(), true}, {New(), true}, {api.Manifest{}, false}, {api.Manifest{Log: 1, Next: 1}, true}, {api.Manifest{Log: 1, Next: 1, Parts: []api.Part{{}}}, false},
		{of(func(m *api.Manifest) { m.Floor, m.Now = math.MinInt, math.MaxInt }), true}, {of(func(m *api.Manifest) { m.Floor, m.Now = math.MaxInt, math.MinInt }), true},
		{api.Manifest{Done: -1, Log: 1, Next: 1}, false}, {api.Manifest{Done: 1 << 40, Log: 99999999, Next: 99999999}, true}, {api.Manifest{Done: 1<<40 + 1, Log: 1, Next: 1}, false},
		{api.Manifest{Log: 0, Next: 1}, false}, {api.Manifest{Log: 100000000, Next: 1}, false}, {api.Manifest{Log: 1, Next: 0}, false}, {api.Manifest{Log: 1, Next: 100000000}, false}, {api.Manifest{Log: -1, Next: 1}, false}, {api.Manifest{Log: 1, Next: -1}, false},
		{of(func(m *api.Manifest) { m.Done = 1<<16 + 6 }), true}, {of(func(m *api.Manifest) { m.Done = 1<<16 + 5 }), false}, {of(func(m *api.Manifest) { m.Done = 0 }), false},
		{of(func(m *api.Manifest) { m.Next = 8 }), true}, {of(func(m *api.Manifest) { m.Next = 7 }), false}, {of(func(m *api.Manifest) { m.Next = 99999999 }), true},
		{of(func(m *api.Manifest) { m.Parts[0].ID = 1 }), true}, {of(func(m *api.Manifest) { m.Parts[0].ID = 0 }), false}, {of(func(m *api.Manifest) { m.Parts[0].ID = -1 }), false}, {of(func(m *api.Manifest) { m.Parts[0].ID = 3 }), false}, {of(func(m *api.Manifest) { m.Parts[1].ID = 2 }), false},
		{last(func(p *api.Part, m *api.Manifest) { p.ID, m.Next = 99999998, 99999999 }), true}, {last(func(p *api.Part, m *api.Manifest) { p.ID, m.Next = 99999999, 99999999 }), false}, {last(func(p *api.Part, m *api.Manifest) { p.ID, m.Next = 99999999, 100000000 }), false},
		{last(func(p *api.Part, m *api.Manifest) { p.State = api.Hot }), false}, {last(func(p *api.Part, m *api.Manifest) { p.State = api.NoState }), false}, {last(func(p *api.Part, m *api.Manifest) { p.State = 4 }), false}, {last(func(p *api.Part, m *api.Manifest) { p.State = -2 }), false}, {last(func(p *api.Part, m *api.Manifest) { p.State = api.Frozen }), true},
		{last(func(p *api.Part, m *api.Manifest) { p.Low, p.High = 5, 5 }), true}, {last(func(p *api.Part, m *api.Manifest) { p.Low, p.High = 5, 4 }), false}, {last(func(p *api.Part, m *api.Manifest) { p.Low, p.High = math.MaxInt, math.MinInt }), false},
		{of(func(m *api.Manifest) { m.Parts[0].First, m.Parts[0].N = 0, 5 }), false}, {of(func(m *api.Manifest) { m.Parts[0].First, m.Parts[0].N = -1, 6 }), false}, {of(func(m *api.Manifest) { m.Parts[0].First, m.Parts[0].N = 4, 1 }), true}, {of(func(m *api.Manifest) { m.Parts[0].First, m.Parts[0].N = 5, 0 }), false},
		{of(func(m *api.Manifest) { m.Parts[1] = sealedPart(3, 5, 6) }), true}, {of(func(m *api.Manifest) { m.Parts[1] = sealedPart(3, 4, 6) }), false}, {of(func(m *api.Manifest) { m.Parts[1] = sealedPart(3, 6, 7) }), false},
		{last(func(p *api.Part, m *api.Manifest) { *p, m.Done = sealedPart(7, 7, 1<<40), 1<<40 }), true}, {last(func(p *api.Part, m *api.Manifest) { *p, m.Done = sealedPart(7, 7, 1<<40+1), 1<<40+1 }), false}, {last(func(p *api.Part, m *api.Manifest) { *p, m.Done = sealedPart(7, 1<<40, 1<<40), 1<<40 }), true},
		{of(func(m *api.Manifest) { m.Parts[1].N = 0 }), false}, {of(func(m *api.Manifest) { m.Parts[1].N = 2 }), false}, {of(func(m *api.Manifest) { m.Parts[1].N = -1 }), false},
		{of(func(m *api.Manifest) { m.Parts[0], m.Parts[1] = m.Parts[1], m.Parts[0] }), false}, {of(func(m *api.Manifest) { m.Parts = append(m.Parts, m.Parts[2]) }), false}, {of(func(m *api.Manifest) { m.Parts = m.Parts[1:] }), true},
	} {
		want := api.OK
		if !c.mayBe {
			want = api.ErrManifest
		}
		if e := checked(t, c.m); e != want {
			t.Errorf("the case %d, %s: %d, not %d", i, short(c.m), e, want)
		}
	}
}

// Sums of numbers would go round here: what looks right by them may not be.
func TestP16_1CheckGoingRound(t *testing.T) {
	for _, p := range []api.Part{
		{First: 1, Last: math.MinInt, N: math.MinInt}, {First: math.MinInt, Last: math.MaxInt, N: 0}, {First: math.MinInt, Last: 4, N: math.MinInt + 5}, {First: 1, Last: math.MaxInt, N: math.MaxInt}, {First: math.MaxInt, Last: math.MinInt, N: 2}, {First: 2, Last: 1, N: 0},
	} {
		p.ID, p.State = 1, api.Sealed
		for _, done := range []int{0, 1 << 40, p.Last} {
			if e := checked(t, api.Manifest{Parts: []api.Part{p}, Done: done, Log: 1, Next: 2}); e != api.ErrManifest {
				t.Errorf("%+v: %d", p, e)
			}
		}
	}
}

func TestP16_1CheckMany(t *testing.T) {
	for n, want := range map[int]api.Errno{1: 0, 2: 0, 511: 0, 512: 0, 513: 3, 514: 3, 1025: 3} {
		m := full(n)
		must(t, checked(t, m), want)
		bad := api.ErrManifest
		if want != api.OK {
			bad = want // that they are too many is told first
		}
		for _, i := range []int{0, n / 2, n - 1} {
			k := copyOf(m)
			k.Parts[i].N++
			must(t, checked(t, k), bad)
		}
		m.Log = 0
		must(t, checked(t, m), bad)
	}
	must(t, Check(api.Manifest{Parts: make([]api.Part, 1<<16)}), api.ErrMany)
}

func TestP16_1CheckByChance(t *testing.T) {
	r := rand.New(rand.NewSource(1))
	told := map[api.Errno]int{}
	for range 400 {
		m := random(r, 4)
		must(t, checked(t, m), api.OK)
		for _, k := range changed(m) {
			told[checked(t, k)]++
		}
	}
	if told[api.OK] < 1000 || told[api.ErrManifest] < 1000 {
		t.Error(told)
	}
}

func TestP16_1Same(t *testing.T) {
	r := rand.New(rand.NewSource(2))
	all := []api.Manifest{{}, New(), known(), full(1), full(2), full(512), full(513)}
	for range 20 {
		all = append(all, random(r, 3))
	}
	for i, a := range all {
		for j, b := range all {
			if got := Same(a, copyOf(b)); got != plainSame(a, b) || i == j && !got {
				t.Fatalf("Same of %s, %s: %v", short(a), short(b), got)
			}
		}
		if len(a.Parts) > 100 {
			continue
		}
		for _, b := range changed(a) {
			if want := plainSame(a, b); Same(a, b) != want || Same(b, a) != want || !Same(b, copyOf(b)) {
				t.Fatalf("Same of %s, %s: not %v", short(a), short(b), want)
			}
		}
	}
}

func TestP16_1SamePartByPart(t *testing.T) {
	m := known()
	for _, l := range [][]api.Part{nil, m.Parts[:2], m.Parts[1:], {m.Parts[1], m.Parts[0], m.Parts[2]}, {m.Parts[0], m.Parts[0], m.Parts[2]}, append(slices.Clone(m.Parts), m.Parts[2]), append(slices.Clone(m.Parts), api.Part{})} {
		k := m
		k.Parts = l
		if Same(m, k) || Same(k, m) || !Same(k, k) {
			t.Errorf("%s, %s", short(m), short(k))
		}
	}
	if a, b := New(), New(); !Same(a, b) {
		t.Error("the new one")
	} else if b.Parts = []api.Part{}; !Same(a, b) || !Same(b, a) {
		t.Error("an empty list is another one than none")
	}
}

// What may not be is the same, too, if it is.
func TestP16_1SameOfAny(t *testing.T) {
	a := api.Manifest{Parts: []api.Part{{ID: -1, N: 9}}, Log: -5}
	if !Same(a, copyOf(a)) || Same(a, api.Manifest{Log: -5}) || Same(api.Manifest{}, New()) {
		t.Error("by hand")
	}
}
