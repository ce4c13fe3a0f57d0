package manifest

import (
	"bytes"

	"loggia/api"
	"loggia/crc"
	"loggia/varint"
)

const (
	beginning = "LGM1" // what a manifest's bytes begin with
	sumSize   = 4      // how many bytes the sum at their end has
)

// Encode are a manifest's bytes.
func Encode(m api.Manifest) ([]byte, api.Errno) {
	if e := Check(m); e != api.OK {
		return nil, e
	}
	own := numbersOf(m)
	var all []int
	for _, p := range m.Parts {
		all = append(all, p.ID, int(p.State), p.Low, p.High, p.First, p.Last) // N hangs on the last two
	}
	b := varint.PutAll([]byte(beginning), own[:]...)
	b = varint.Put(b, uint64(len(m.Parts)))
	b = varint.PutAll(b, all...)
	return append(b, sumOf(b)...), api.OK
}

// Decode is the manifest of bytes.
func Decode(b []byte) (api.Manifest, api.Errno) {
	r := reading{rest: restOf(b)}
	r.readNumbers()
	r.readParts()
	if !r.ended() || Check(r.told) != api.OK {
		return api.Manifest{}, api.ErrManifest
	}
	return r.told, api.OK
}

// reading is a manifest as far as it was read, whether it may be or not, and the rest of its bytes.
type reading struct {
	rest
	told api.Manifest
}

// readNumbers reads all that stands ahead of the partitions.
func (r *reading) readNumbers() {
	r.told.Floor = r.next()
	r.told.Done = r.next()
	r.told.Log = r.next()
	r.told.Next = r.next()
	r.told.Now = r.next()
}

// readParts reads the partitions.
func (r *reading) readParts() {
	for range r.count(api.MaxParts) {
		p := api.Part{ID: r.next(), State: api.State(r.next()), Low: r.next(), High: r.next(), First: r.next(), Last: r.next()}
		p.N = p.Last - p.First + 1 // it goes round only where the numbers may not be
		r.told.Parts = append(r.told.Parts, p)
	}
}

// rest is bytes that are still to be read. Behind the first that tell no number nothing more is read.
type rest struct {
	left []byte
	odd  bool // there was something else than what is to be there
}

// restOf is what stands between a manifest's beginning and its sum.
func restOf(b []byte) rest {
	end := max(len(b)-sumSize, 0)
	left, ok := bytes.CutPrefix(b[:end], []byte(beginning))
	return rest{left: left, odd: !ok || !bytes.Equal(b[end:], sumOf(b[:end]))}
}

// next is the whole number that stands first; 0, if there is none.
func (r *rest) next() int {
	n, left, e := varint.GetInt(r.left)
	r.goOn(left, e == api.OK)
	return n
}

// count is how many there are, by the number that stands first; 0, if that is none, or above most.
func (r *rest) count(most uint64) int {
	n, left, e := varint.Get(r.left)
	r.goOn(left, e == api.OK && n <= most)
	if r.odd {
		return 0
	}
	return int(n)
}

// goOn goes on with what is left, if what stood ahead of it is as it must be.
func (r *rest) goOn(left []byte, ok bool) {
	r.left, r.odd = left, r.odd || !ok
}

// ended tells whether all was read, and as it must be.
func (r *rest) ended() bool {
	return len(r.left) == 0 && !r.odd
}

// sumOf are the bytes of the sum of b.
func sumOf(b []byte) []byte {
	sum := crc.Sum(b)
	return []byte{byte(sum), byte(sum >> 8), byte(sum >> 16), byte(sum >> 24)}
}
