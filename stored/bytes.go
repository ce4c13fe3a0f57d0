package stored

import (
	"iter"

	"loggia/api"
	"loggia/event"
	"loggia/varint"
)

// blockSize is how many docs a block has; the last one may have fewer.
const blockSize = 16

// bytesOf are a block's bytes, behind a doc of that number.
func bytesOf(docs []api.Doc, ahead int) []byte {
	var b []byte
	for _, d := range docs {
		one, _ := event.Put(nil, d.E) // the event may be, for the row may
		b = append(appendNumber(b, d.Seq-ahead-1), one...)
		ahead = d.Seq
	}
	return b
}

// appendNumber puts a number's bytes into b's own memory, for varint.Put would put all of b anew each time.
func appendNumber(b []byte, n int) []byte {
	return append(b, varint.Put(nil, uint64(n))...)
}

// blocks tells each block's docs, in order, and then, if b is no row's bytes, ErrStored.
func blocks(b []byte) iter.Seq2[[]api.Doc, api.Errno] {
	return func(yield func([]api.Doc, api.Errno) bool) {
		r := reader{left: b}
		ahead := 0
		for _, h := range r.heads() {
			docs := r.block(h, ahead)
			if r.odd {
				break
			}
			if !yield(docs, api.OK) {
				return
			}
			ahead = h.last
		}
		if r.odd || len(r.left) > 0 {
			yield(nil, api.ErrStored)
		}
	}
}

// head is what is told of a block ahead of all blocks.
type head struct {
	n    int // how many docs it has
	last int // the number of the last one
	size int // how many bytes it has
}

// reader takes what bytes tell, piece by piece. If a piece may not be there, nothing is left from there on: what else is taken is zero, and soon over.
type reader struct {
	left []byte
	odd  bool // a piece may not be there
}

// goOn leaves what stands behind a piece; with an error nothing does.
func (r *reader) goOn(rest []byte, e api.Errno) {
	r.left = rest
	if e != api.OK {
		r.odd = true
	}
}

// number takes the number that stands first, which is at most most.
func (r *reader) number(most int) int {
	n, rest, e := varint.Get(r.left)
	if n > uint64(most) {
		n, rest, e = 0, nil, api.ErrStored
	}
	r.goOn(rest, e)
	return int(n)
}

// event takes the event that stands first. What is left behind it is copied each time, so it should be that of one block.
func (r *reader) event() api.Event {
	e, rest, x := event.Get(r.left)
	r.goOn(rest, x)
	return e
}

// heads takes what is told of all blocks.
func (r *reader) heads() []head {
	var l []head
	for n := r.number(api.MaxDocs); n > 0; n -= blockSize {
		last := r.number(api.MaxSeq)
		size := r.number(len(r.left))
		l = append(l, head{n: min(n, blockSize), last: last, size: size})
	}
	return l
}

// block takes the block that stands first, of which that is told, behind a doc of that number.
func (r *reader) block(h head, ahead int) []api.Doc {
	if h.size > len(r.left) {
		r.goOn(nil, api.ErrStored)
		return nil
	}
	in := reader{left: r.left[:h.size]}
	var docs []api.Doc
	for range h.n {
		ahead += 1 + in.number(api.MaxSeq)
		docs = append(docs, api.Doc{Seq: ahead, E: in.event()})
	}
	r.left = r.left[h.size:]
	if in.odd || len(in.left) > 0 || ahead != h.last {
		r.goOn(nil, api.ErrStored)
	}
	return docs
}
