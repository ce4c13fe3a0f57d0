package wal

import (
	"loggia/api"
	"loggia/disk"
	"loggia/event"
	"loggia/frame"
)

// Writer writes a log's file on its disk.
type Writer struct {
	*disk.Disk
	name string // empty: Open did not make the writer
	n    int
}

// Open is the writer of the file of a number; there need be none yet.
func Open(d *disk.Disk, n int) (*Writer, api.Errno) {
	if nobodys(d) {
		return nil, api.ErrNil
	}
	name, e := Name(n)
	if e != api.OK {
		return nil, e
	}
	return &Writer{Disk: d, name: name, n: n}, api.OK
}

// Append lets batches' frames come behind the file's bytes, all at once.
func (w *Writer) Append(batches ...api.Batch) api.Errno {
	if !w.made() {
		return api.ErrNil
	}
	if len(batches) == 0 {
		return api.OK // the disk would make an empty file
	}
	payloads := make([][]byte, len(batches))
	for i, b := range batches {
		payload, e := event.Encode(b)
		if e != api.OK {
			return e
		}
		payloads[i] = payload
	}
	frames, e := frame.Join(payloads...)
	if e != api.OK {
		return e
	}
	return w.Disk.Append(w.name, frames)
}

// Sync lets all of the file's bytes be durable.
func (w *Writer) Sync() api.Errno {
	if !w.made() {
		return api.ErrNil
	}
	e := w.Disk.Sync(w.name)
	if e == api.ErrGone {
		return api.OK
	}
	return e
}

// Number is the file's.
func (w *Writer) Number() int {
	if !w.made() {
		return 0
	}
	return w.n
}

// Size is how many bytes the file has; 0: there is none.
func (w *Writer) Size() int {
	if !w.made() {
		return 0
	}
	size, _ := w.Disk.Size(w.name)
	return size
}

// made tells whether Open made the writer.
func (w *Writer) made() bool { return w != nil && w.name != "" }
