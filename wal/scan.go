package wal

import (
	"loggia/api"
	"loggia/event"
	"loggia/frame"
)

// Scan are the batches that a file of these bytes tells, how many bytes their frames have, and why there is no further one, if these are not all.
func Scan(b []byte) ([]api.Batch, int, api.Errno) {
	var told []api.Batch
	left := b
	for len(left) > 0 {
		batch, rest, e := first(left)
		if e == api.OK && batch.Seq != behind(told, batch.Seq) {
			e = api.ErrWal
		}
		if e != api.OK {
			return told, len(b) - len(left), e
		}
		told = append(told, batch)
		left = rest
	}
	return told, len(b), api.OK
}

// first is the batch whose frame stands first, and what stands behind that.
func first(b []byte) (api.Batch, []byte, api.Errno) {
	payload, rest, e := frame.Get(b)
	if e != api.OK {
		return api.Batch{}, nil, e
	}
	batch, e := event.Decode(payload)
	if e != api.OK {
		return api.Batch{}, nil, api.ErrWal
	}
	return batch, rest, api.OK
}

// behind is the number with which the batch behind these begins; of none: start.
func behind(l []api.Batch, start int) int {
	if len(l) == 0 {
		return start
	}
	last := l[len(l)-1]
	return last.Seq + len(last.Events)
}
