package posting

import (
	"math"

	"loggia/api"
	"loggia/varint"
)

const (
	blockSize = 32 // posts
	leastPost = 3  // bytes of a post: one of its Doc, of how many places it has, and of its place
)

// head is what stands ahead of all blocks of each of them: the Doc of its last post, and how many bytes it has.
type head struct {
	last, size int
}

// blocksOf are the pieces of a row, each of so many items; the last one has what is left.
func blocksOf[T any](row []T, size int) [][]T {
	var blocks [][]T
	for len(row) > 0 {
		n := min(size, len(row))
		blocks = append(blocks, row[:n])
		row = row[n:]
	}
	return blocks
}

// appendPost puts behind b the bytes of a post, whose Doc is next at least.
func appendPost(b []byte, p api.Post, next int) []byte {
	b = appendNumber(b, p.Doc-next)
	b = appendNumber(b, len(p.Pos))
	least := 0
	for _, place := range p.Pos {
		b = appendNumber(b, place-least)
		least = place + 1
	}
	return b
}

// appendNumber puts a number's bytes into b's own memory, for varint.Put would put all of b anew each time.
func appendNumber(b []byte, n int) []byte {
	return append(b, varint.Put(nil, uint64(n))...)
}

// reader takes numbers from bytes, one by one. If one may not be there, nothing is left from there on: what else is taken is 0, and soon over.
type reader struct {
	left []byte
	odd  bool // one may not be there
}

// number takes the number that stands first, which is from least to most.
func (r *reader) number(least, most int) int {
	n, rest, e := varint.Get(r.left)
	if e != api.OK || int(n) < least || int(n) > most { // one above all whole numbers goes round to below 0
		r.left, r.odd = nil, true
		return 0
	}
	r.left = rest
	return int(n)
}

// rising takes a number that is told as how much it is above next, and is below end.
func (r *reader) rising(next, end int) int {
	return next + r.number(0, end-1-next)
}

// heads takes those of n blocks, whatever they tell: they are held against what the blocks have.
func (r *reader) heads(n int) []head {
	heads := make([]head, n)
	for i := range heads {
		heads[i].last = r.number(0, math.MaxInt)
		heads[i].size = r.number(0, math.MaxInt)
	}
	return heads
}

// posts tells a row's posts, block by block: each call takes the next one.
func (r *reader) posts() func() api.Post {
	next := 0 // the least Doc that the next one may have
	return func() api.Post {
		doc := r.rising(next, api.MaxDocs)
		next = doc + 1
		pos := make([]int, r.number(1, min(api.MaxPos, len(r.left)))) // no room for more places than can stand there
		least := 0
		for i := range pos {
			pos[i] = r.rising(least, api.MaxPos)
			least = pos[i] + 1
		}
		return api.Post{Doc: doc, Pos: pos}
	}
}
