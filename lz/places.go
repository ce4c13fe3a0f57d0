package lz

import "maps"

const (
	nowhere = -1 - farthest // too far back, from every place
	rounds  = 1 + farthest  // how many places count at once: one, and those that it may go back to
)

// places are those that a match may go back to. Those of the same four bytes are a tree: the nearest stands at its top, each above such as are farther back, and from side to side they are sorted by the bytes from them on. So the way down to where a place's own bytes belong leads past the nearest of those that are alike longest. A list of them would tell the same; but among bytes of few kinds thousands of places have the same four, and a list leads past them all.
type places struct {
	b     []byte
	tops  map[[leastMatch]byte]int32
	under []sides // of each place, at its number modulo rounds
}

// sides are the tops of what stands under a place.
type sides struct {
	below, above int32
}

// newPlaces is no place of b so far.
func newPlaces(b []byte) *places {
	return &places{
		b:     b,
		tops:  map[[leastMatch]byte]int32{},
		under: make([]sides, min(len(b), rounds)),
	}
}

// add lets the next place be one of those that are gone back to, and is its longest match, of alike ones the nearest; 0, 0: it has none. The place becomes the top, so on the way down those below its bytes are parted from those above them.
func (p *places) add(at int) (size, back int) {
	own := p.b[at:]
	if len(own) < leastMatch {
		return 0, 0
	}
	own = own[:min(len(own), mostMatch)]
	// Where the next one of each side is to stand, and how many bytes the last one of each has in common with the place: whatever stands between has the lesser of both in common with it, and need not be asked for these.
	below, above := &p.under[at%rounds].below, &p.under[at%rounds].above
	alikeBelow, alikeAbove := leastMatch, leastMatch
	for other := p.lift(at); at-int(other) <= farthest; {
		its, under := p.b[other:][:len(own)], &p.under[other%rounds]
		n := alike(its, own, min(alikeBelow, alikeAbove))
		if n > size {
			size, back = n, at-int(other)
		}
		switch {
		case n == len(own): // nobody needs the other one any more: the place is as good, and nearer
			*below, *above = under.below, under.above
			return size, back
		case its[n] < own[n]:
			*below, alikeBelow = other, n
			below = &under.above
			other = *below
		default:
			*above, alikeAbove = other, n
			above = &under.below
			other = *above
		}
	}
	*below, *above = nowhere, nowhere
	return size, back
}

// lift lets a place be the top of its four bytes, and is the one that was.
func (p *places) lift(at int) int32 {
	if at%rounds == 0 {
		p.forget(at)
	}
	four := [leastMatch]byte(p.b[at:])
	was, ok := p.tops[four]
	if !ok {
		was = nowhere
	}
	p.tops[four] = int32(at)
	return was
}

// forget lets go of tops that are too far back, that the map does not grow with all bytes.
func (p *places) forget(at int) {
	maps.DeleteFunc(p.tops, func(_ [leastMatch]byte, place int32) bool {
		return at-int(place) > farthest
	})
}

// alike is how many bytes x and y, which are of one length, have in common from their first on, being alike in the first n.
func alike(x, y []byte, n int) int {
	const step = 8 // at once, as an array
	for len(x)-n >= step && [step]byte(x[n:]) == [step]byte(y[n:]) {
		n += step
	}
	for n < len(x) && x[n] == y[n] {
		n++
	}
	return n
}
