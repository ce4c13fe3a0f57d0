package dict

import (
	"loggia/api"
	"loggia/varint"
)

// blockSize is how many entries a block has; the last one may have fewer.
const blockSize = 16

// appendBlock puts a block's bytes behind b.
func appendBlock(b []byte, l []Entry) []byte {
	var body []byte
	ahead := "" // the first one shares nothing, so that a block is read alone
	for _, e := range l {
		n := shared(ahead, e.Term)
		body = appendNumber(body, n)
		body = append(body, varint.PutText(nil, e.Term[n:])...)
		for _, x := range []int{e.Off, e.Len, e.N} {
			body = appendNumber(body, x)
		}
		ahead = e.Term
	}
	return append(b, varint.PutText(nil, string(body))...) // a block stands there as a text does
}

// appendNumber puts a number's bytes into b's own memory, for varint.Put would put all of b anew each time.
func appendNumber(b []byte, n int) []byte {
	return append(b, varint.Put(nil, uint64(n))...)
}

// shared is how many bytes two texts both begin with.
func shared(a, b string) int {
	n := 0
	for n < min(len(a), len(b)) && a[n] == b[n] {
		n++
	}
	return n
}

// reader takes what bytes tell, piece by piece. If a piece may not be there, nothing is left from there on: what else is taken is zero, and soon over.
type reader struct {
	left []byte
	odd  bool // a piece may not be there
}

// goOn leaves what stands behind a piece; with an error nothing does.
func (r *reader) goOn(rest []byte, e api.Errno) {
	r.left = rest
	if e != api.OK {
		r.odd = true
	}
}

// number takes the number that stands first, which is at most most.
func (r *reader) number(most int) int {
	n, rest, e := varint.Get(r.left)
	if n > uint64(most) {
		n, rest, e = 0, nil, api.ErrDict
	}
	r.goOn(rest, e)
	return int(n)
}

// text takes the text that stands first, which has at most so many bytes.
func (r *reader) text(most int) string {
	s, rest, e := varint.GetText(r.left, most)
	r.goOn(rest, e)
	return s
}

// entry takes the entry that stands first, behind one of that term.
func (r *reader) entry(ahead string) Entry {
	n := r.number(len(ahead))
	term := ahead[:n] + r.text(api.MaxTerm-n)
	if shared(ahead, term) != n { // they both begin with more
		r.goOn(nil, api.ErrDict)
	}
	return Entry{Term: term, Off: r.number(maxNumber), Len: r.number(maxNumber), N: r.number(maxNumber)}
}

// entriesOf are the entries of a block; whether there must be so many, and their terms rise, is still to be asked.
func entriesOf(body []byte) (l []Entry, ok bool) {
	r := reader{left: body}
	ahead := ""
	for len(r.left) > 0 && len(l) < blockSize {
		e := r.entry(ahead)
		l = append(l, e)
		ahead = e.Term
	}
	return l, !r.odd && len(r.left) == 0
}
