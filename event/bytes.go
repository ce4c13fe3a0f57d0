package event

import (
	"bytes"
	"slices"

	"loggia/api"
	"loggia/varint"
)

// Put is b, and behind it an event's bytes.
func Put(b []byte, e api.Event) ([]byte, api.Errno) {
	if x := Check(e); x != api.OK {
		return nil, x
	}
	return slices.Concat(b, appendEvent(nil, e)), api.OK // in new memory, so that no two answers made from one b share any
}

// Get is the event whose bytes stand first, and what stands behind it, in new memory.
func Get(b []byte) (e api.Event, rest []byte, x api.Errno) {
	r := reader{left: b}
	e = r.event()
	if r.odd || Check(e) != api.OK {
		return api.Event{}, nil, api.ErrEvent
	}
	return e, bytes.Clone(r.left), api.OK
}

// Encode is a batch's bytes.
func Encode(b api.Batch) ([]byte, api.Errno) {
	if x := CheckBatch(b); x != api.OK {
		return nil, x
	}
	all := varint.Put(nil, uint64(b.Seq))
	all = append(all, varint.Put(nil, uint64(len(b.Events)))...)
	for _, e := range b.Events {
		all = appendEvent(all, e)
	}
	return all, api.OK
}

// Decode is the batch that has these bytes.
func Decode(b []byte) (api.Batch, api.Errno) {
	r := reader{left: b}
	batch := api.Batch{Seq: r.number(api.MaxSeq)}
	for range r.number(api.MaxBatch) {
		batch.Events = append(batch.Events, r.event())
	}
	if r.odd || len(r.left) > 0 || CheckBatch(batch) != api.OK {
		return api.Batch{}, api.ErrEvent
	}
	return batch, api.OK
}

// appendEvent puts an event's bytes into b's own memory, for varint.PutText would put all of b anew each time.
func appendEvent(b []byte, e api.Event) []byte {
	b = append(b, varint.PutInt(nil, e.At)...)
	b = append(b, varint.Put(nil, uint64(len(e.Fields)))...)
	for _, f := range e.Fields {
		b = append(b, varint.PutText(nil, f.Name)...)
		b = append(b, varint.PutText(nil, f.Text)...)
	}
	return b
}

// reader takes what bytes tell, piece by piece. If a piece may not be there, nothing is left from there on: what else is taken is zero, and soon over.
type reader struct {
	left []byte
	odd  bool // a piece may not be there
}

// goOn leaves what stands behind a piece; with an error nothing does.
func (r *reader) goOn(rest []byte, e api.Errno) {
	r.left = rest
	if e != api.OK {
		r.odd = true
	}
}

// number takes the number that stands first, which is at most most.
func (r *reader) number(most int) int {
	n, rest, e := varint.Get(r.left)
	if n > uint64(most) {
		n, rest, e = 0, nil, api.ErrEvent
	}
	r.goOn(rest, e)
	return int(n)
}

// time takes the whole number that stands first.
func (r *reader) time() int {
	n, rest, e := varint.GetInt(r.left)
	r.goOn(rest, e)
	return n
}

// text takes the text that stands first, which has at most so many bytes.
func (r *reader) text(most int) string {
	s, rest, e := varint.GetText(r.left, most)
	r.goOn(rest, e)
	return s
}

// event takes the event that stands first; whether it may be is still to be asked.
func (r *reader) event() api.Event {
	e := api.Event{At: r.time()}
	for range r.number(api.MaxFields) {
		name := r.text(api.MaxName)
		e.Fields = append(e.Fields, api.Field{Name: name, Text: r.text(api.MaxText)})
	}
	return e
}
