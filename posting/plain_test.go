package posting

import (
	"encoding/binary"
	"math"
	"math/rand"

	"loggia/api"
)

// plainMay tells by the chapter's words whether a row may be.
func plainMay(l []api.Post) bool {
	for i, p := range l {
		if p.Doc < 0 || p.Doc > 65535 || len(p.Pos) < 1 {
			return false
		}
		if i > 0 && !(l[i-1].Doc < p.Doc) {
			return false
		}
		for j, x := range p.Pos {
			if x < 0 || x > 1048575 || j > 0 && !(p.Pos[j-1] < x) {
				return false
			}
		}
	}
	return true
}

// plainBlock is the bytes of the posts of a row from one place on to ahead of another one.
func plainBlock(l []api.Post, from, to int) []byte {
	var b []byte
	put := func(n int) { b = binary.AppendUvarint(b, uint64(n)) }
	for i := from; i < to; i++ {
		if i == 0 {
			put(l[i].Doc)
		} else {
			put(l[i].Doc - l[i-1].Doc - 1)
		}
		pos := l[i].Pos
		put(len(pos))
		put(pos[0])
		for j := 1; j < len(pos); j++ {
			put(pos[j] - pos[j-1] - 1)
		}
	}
	return b
}

// plainBytes is the bytes of a row that may be, by the chapter's words.
func plainBytes(l []api.Post) string {
	b := binary.AppendUvarint(nil, uint64(len(l)))
	var bodies []byte
	for from := 0; from < len(l); from += 32 {
		to := min(len(l), from+32)
		block := plainBlock(l, from, to)
		b = binary.AppendUvarint(b, uint64(l[to-1].Doc))
		b = binary.AppendUvarint(b, uint64(len(block)))
		bodies = append(bodies, block...)
	}
	return string(b) + string(bodies)
}

// plainNumbers takes numbers from bytes, told as short or as long as one likes; those above 2^24 count as 2^24, which no row's bytes can have.
type plainNumbers struct {
	left []byte
	odd  bool
}

func (x *plainNumbers) next() int {
	n, size := binary.Uvarint(x.left)
	if size <= 0 {
		x.odd, x.left = true, nil
		return 0
	}
	x.left = x.left[size:]
	return int(min(n, 1<<24))
}

// plainRow is the row that has these bytes: what the posts' numbers tell, if such a row may be and has just these bytes.
func plainRow(s string) ([]api.Post, bool) {
	x := plainNumbers{left: []byte(s)}
	n := x.next()
	for i := 0; i < n && !x.odd; i += 32 {
		x.next()
		x.next()
	}
	var l []api.Post
	doc := -1
	for i := 0; i < n && !x.odd; i++ {
		doc += x.next() + 1
		p := api.Post{Doc: doc}
		places, place := x.next(), -1
		for j := 0; j < places && !x.odd; j++ {
			place += x.next() + 1
			p.Pos = append(p.Pos, place)
		}
		l = append(l, p)
	}
	if x.odd || !plainMay(l) || plainBytes(l) != s {
		return nil, false
	}
	return l, true
}

// plainSame tells whether two rows are the same, number by number.
func plainSame(a, b []api.Post) bool {
	if len(a) != len(b) {
		return false
	}
	for i := range a {
		if a[i].Doc != b[i].Doc || len(a[i].Pos) != len(b[i].Pos) {
			return false
		}
		for j := range a[i].Pos {
			if a[i].Pos[j] != b[i].Pos[j] {
				return false
			}
		}
	}
	return true
}

// plainJoin is what Join is to answer, and whether there is such a row.
func plainJoin(a, b []api.Post, by int) ([]api.Post, bool) {
	if !plainMay(a) || !plainMay(b) || by < 0 || by > 65536 {
		return nil, false
	}
	var all []api.Post
	for _, p := range a {
		all = append(all, api.Post{Doc: p.Doc, Pos: append([]int(nil), p.Pos...)})
	}
	for _, p := range b {
		all = append(all, api.Post{Doc: p.Doc + by, Pos: append([]int(nil), p.Pos...)})
	}
	return all, plainMay(all)
}

// copyOf is a row like this one, in other memory.
func copyOf(l []api.Post) []api.Post {
	var c []api.Post
	for _, p := range l {
		c = append(c, api.Post{Doc: p.Doc, Pos: append([]int(nil), p.Pos...)})
	}
	return c
}

// step is a number that is often 1, and seldom great.
func step(r *rand.Rand, most int) int {
	switch r.Intn(4) {
	case 0, 1:
		return 1
	case 2:
		return 1 + r.Intn(min(most, 300))
	}
	return 1 + r.Intn(most)
}

// randomRow is a row that may be, of up to n posts, with gaps of up to most.
func randomRow(r *rand.Rand, n, most int) []api.Post {
	var l []api.Post
	for doc := r.Intn(3) * r.Intn(200); len(l) < n && doc < 65536; doc += step(r, most) {
		p := api.Post{Doc: doc}
		for place := r.Intn(3) * r.Intn(300); len(p.Pos) == 0 || len(p.Pos) < 4 && r.Intn(2) == 0; place += step(r, 300000) {
			p.Pos = append(p.Pos, place)
		}
		if last := p.Pos[len(p.Pos)-1]; last > 1048575 {
			p.Pos = []int{last % 1048576}
		}
		l = append(l, p)
	}
	return l
}

// oddNumbers are numbers at the ends, and past them.
var oddNumbers = []int{math.MinInt, -65536, -2, -1, 0, 1, 2, 65534, 65535, 65536, 65537, 1048574, 1048575, 1048576, 1048577, math.MaxInt - 1, math.MaxInt}

// turned is a row in which one thing is another one, so that it may often not be.
func turned(r *rand.Rand, l []api.Post) []api.Post {
	l = copyOf(l)
	if len(l) == 0 {
		return l
	}
	i := r.Intn(len(l))
	pos := l[i].Pos
	j := r.Intn(len(pos))
	switch r.Intn(9) {
	case 0:
		l[i].Doc = oddNumbers[r.Intn(len(oddNumbers))]
	case 1:
		pos[j] = oddNumbers[r.Intn(len(oddNumbers))]
	case 2:
		l[i].Pos = nil
	case 3:
		l[i].Pos = []int{}
	case 4:
		l[i].Doc = l[r.Intn(len(l))].Doc
	case 5:
		pos[j] = pos[r.Intn(len(pos))]
	case 6:
		l[i].Doc += r.Intn(5) - 2
	case 7:
		pos[j] += r.Intn(5) - 2
	case 8:
		l[i].Pos = append(pos, pos[j])
	}
	return l
}
