package lz

// left is what is not read yet.
type left struct {
	b []byte
}

// take is the next n bytes; false: there are fewer.
func (l *left) take(n int) ([]byte, bool) {
	if n > len(l.b) {
		return nil, false
	}
	b := l.b[:n]
	l.b = l.b[n:]
	return b, true
}

// orders are those that are left, and the bytes that the ones ahead stand for.
type orders struct {
	left
	made []byte
}

// next makes the bytes of the order that stands first; false: there is none that may be.
func (o *orders) next() bool {
	first, ok := o.take(1)
	if !ok {
		return false
	}
	c := int(first[0])
	if c < matchMark {
		return o.run(c + 1)
	}
	return o.match(c - matchMark + leastMatch)
}

// run makes the next n bytes themselves.
func (o *orders) run(n int) bool {
	b, ok := o.take(n)
	o.made = append(o.made, b...)
	return ok
}

// match makes n bytes, each as the one a distance ahead of it, which may be one that the match itself has made.
func (o *orders) match(n int) bool {
	b, ok := o.take(matchSize - 1)
	if !ok {
		return false
	}
	back := int(b[0])<<8 | int(b[1])
	if back == 0 || back > len(o.made) {
		return false
	}
	for range n {
		o.made = append(o.made, o.made[len(o.made)-back])
	}
	return true
}
