package manifest

import (
	"loggia/api"
	"loggia/disk"
)

// Save turns the manifest of a disk: the new one is durable under another name, ahead of its taking the old one's place.
func Save(d *disk.Disk, m api.Manifest) api.Errno {
	b, e := Encode(m)
	if e != api.OK {
		return e
	}
	removeComing := func() api.Errno {
		if _, isThere := d.Size(coming); !isThere {
			return api.OK
		}
		return d.Remove(coming)
	}
	e = inTurn(
		removeComing, // a stop may have left one
		func() api.Errno { return d.Append(coming, b) },
		func() api.Errno { return d.Sync(coming) },
		func() api.Errno { return d.Rename(coming, current) },
	)
	if e != api.OK && e != api.ErrCrash {
		removeComing() // why it was not turned is told, whatever comes of this
	}
	return e
}

// Load is the manifest of a disk; false: it has none, and is told the new one.
func Load(d *disk.Disk) (api.Manifest, bool, api.Errno) {
	b, e := d.Read(current, 0, api.MaxFile)
	switch e {
	case api.OK:
		m, e := Decode(b)
		return m, e == api.OK, e
	case api.ErrGone:
		return New(), false, api.OK
	}
	return api.Manifest{}, false, e
}

// inTurn takes steps one behind the other, up to the first that is refused, and tells why it is.
func inTurn(steps ...func() api.Errno) api.Errno {
	for _, step := range steps {
		if e := step(); e != api.OK {
			return e
		}
	}
	return api.OK
}
