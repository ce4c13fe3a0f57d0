package disk

import (
	"math/big"
	"slices"
	"strings"

	"loggia/api"
)

// alphabet are the bytes that a name may have, in the chapter's order.
const alphabet = "abcdefghijklmnopqrstuvwxyz0123456789-."

// plainFile is a file: its bytes that are durable, and the others.
type plainFile struct {
	name         string
	durable, not string
}

// plain is a disk by the chapter's words, slow and simple: a row of files by rising names.
type plain struct {
	files        []plainFile
	quota, calls int
	stopped      bool
}

// isName tells whether a name may be.
func isName(s string) bool {
	for i := range len(s) {
		if strings.IndexByte(alphabet, s[i]) < 0 {
			return false
		}
	}
	return len(s) >= 1 && len(s) <= 64
}

// place is where a name stands in the row, or would stand, and whether it does.
func (p *plain) place(name string) (int, bool) {
	i := 0
	for i < len(p.files) && p.files[i].name < name {
		i++
	}
	return i, i < len(p.files) && p.files[i].name == name
}

// refused is the first error that a call for a file has.
func (p *plain) refused(name string, others ...string) api.Errno {
	for _, n := range append(others, name) {
		if !isName(n) {
			return 60
		}
	}
	if p.stopped {
		return 63
	}
	if _, there := p.place(name); !there {
		return 61
	}
	return 0
}

// stops counts a writing call, and tells whether the disk stops at it.
func (p *plain) stops() bool {
	if p.calls > 0 {
		p.calls--
		p.stopped = p.calls == 0
	}
	return p.stopped
}

func (p *plain) used() int {
	n := 0
	for _, f := range p.files {
		n += len(f.durable) + len(f.not)
	}
	return n
}

func (p *plain) append(name, b string) api.Errno {
	e := p.refused(name)
	if e != 0 && e != 61 {
		return e
	}
	i, there := p.place(name)
	if !there && len(p.files) == 1024 {
		return 3
	}
	if there && len(p.files[i].durable)+len(p.files[i].not)+len(b) > 1<<26 || len(b) > 1<<26 {
		return 2
	}
	if p.quota != 0 && b != "" && p.used()+len(b) > p.quota {
		return 62
	}
	if p.stops() {
		return 63
	}
	if !there {
		p.files = slices.Insert(p.files, i, plainFile{name: name})
	}
	p.files[i].not += b
	return 0
}

func (p *plain) sync(name string) api.Errno {
	if e := p.refused(name); e != 0 {
		return e
	}
	if p.stops() {
		return 63
	}
	i, _ := p.place(name)
	f := &p.files[i]
	f.durable, f.not = f.durable+f.not, ""
	return 0
}

func (p *plain) rename(from, to string) api.Errno {
	if e := p.refused(from, to); e != 0 {
		return e
	}
	if p.stops() {
		return 63
	}
	if from == to {
		return 0
	}
	i, _ := p.place(from)
	f := p.files[i]
	p.files = slices.Delete(p.files, i, i+1)
	i, there := p.place(to)
	if there {
		p.files = slices.Delete(p.files, i, i+1)
	}
	f.name = to
	p.files = slices.Insert(p.files, i, f)
	return 0
}

func (p *plain) remove(name string) api.Errno {
	if e := p.refused(name); e != 0 {
		return e
	}
	if p.stops() {
		return 63
	}
	i, _ := p.place(name)
	p.files = slices.Delete(p.files, i, i+1)
	return 0
}

func (p *plain) read(name string, from, n int) (string, api.Errno) {
	if e := p.refused(name); e != 0 {
		return "", e
	}
	i, _ := p.place(name)
	all := p.files[i].durable + p.files[i].not
	if from < 0 || from > len(all) || n < 0 {
		return "", 5
	}
	some := ""
	for i := from; i < len(all) && len(some) < n; i++ {
		some += all[i : i+1]
	}
	return some, 0
}

func (p *plain) size(name string) (int, bool) {
	i, there := p.place(name)
	if p.stopped || !there {
		return 0, false
	}
	return len(p.files[i].durable) + len(p.files[i].not), true
}

func (p *plain) list() []string {
	l := []string{}
	for _, f := range p.files {
		if !p.stopped {
			l = append(l, f.name)
		}
	}
	return l
}

func (p *plain) durable(name string) int {
	i, there := p.place(name)
	if !there {
		return 0
	}
	return len(p.files[i].durable)
}

func (p *plain) restart(keep ...int) {
	for i := range p.files {
		f := &p.files[i]
		kept := 0
		if i < len(keep) {
			kept = modulo(keep[i], len(f.not)+1)
		}
		f.durable, f.not = f.durable+f.not[:kept], ""
	}
	p.calls, p.stopped = 0, false
}

func (p *plain) fork() *plain {
	like := *p
	like.files = slices.Clone(p.files)
	return &like
}

// modulo is never below 0.
func modulo(a, m int) int {
	return int(new(big.Int).Mod(big.NewInt(int64(a)), big.NewInt(int64(m))).Int64())
}
