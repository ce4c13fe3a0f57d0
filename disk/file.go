package disk

import (
	"bytes"

	"loggia/api"
)

// content is a file's bytes.
type content []byte

// size is how many they are.
func (c content) size() int {
	return len(c)
}

// part is a copy of n of them from a place on, or of as many as there are.
func (c content) part(from, n int) ([]byte, api.Errno) {
	if from < 0 || from > len(c) || n < 0 {
		return nil, api.ErrRange
	}
	return bytes.Clone(c[from:][:min(n, len(c)-from)]), api.OK
}

// file is bytes, the first of which are durable.
type file struct {
	content
	durable int // how many are
}

// longer is the file with b behind its bytes.
func (f file) longer(b []byte) file {
	f.content = append(f.content, b...)
	return f
}

// synced is the file, all of whose bytes are durable.
func (f file) synced() file {
	f.durable = f.size()
	return f
}

// restarted is what a restart leaves of the file; of the bytes that are not durable the first ones stay, as many as keep says, modulo one more than there are.
func (f file) restarted(keep int) file {
	counts := f.size() - f.durable + 1 // from none of these bytes to all
	keep %= counts
	if keep < 0 { // the language's remainder has the sign of what is divided
		keep += counts
	}
	f.content = f.content[:f.durable+keep]
	return f.synced()
}

// copied is the file in new memory.
func (f file) copied() file {
	f.content = bytes.Clone(f.content)
	return f
}
