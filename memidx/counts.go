package memidx

import (
	"loggia/api"
	"loggia/event"
)

// counts are what is counted of docs; all 0, where there are none.
type counts struct {
	n           int // how many docs
	size        int // of all their events
	low, high   int // times
	first, last int // numbers
}

// count counts one more doc, whose number is above those that there are.
func (c *counts) count(d api.Doc) {
	if c.n == 0 {
		c.low, c.high = d.E.At, d.E.At
		c.first = d.Seq
	}
	c.n++
	c.size += event.Size(d.E)
	c.low = min(c.low, d.E.At)
	c.high = max(c.high, d.E.At)
	c.last = d.Seq
}
