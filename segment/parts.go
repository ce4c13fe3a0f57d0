package segment

import (
	"slices"

	"loggia/api"
	"loggia/bloom"
	"loggia/dict"
	"loggia/posting"
	"loggia/varint"
)

// events are a segment's docs. What they answer is in new memory.
type events []api.Doc

// count is how many there are.
func (l events) count() int { return len(l) }

// at is the i-th.
func (l events) at(i int) (api.Doc, bool) {
	if i < 0 || i >= len(l) {
		return api.Doc{}, false
	}
	d := l[i]
	d.E.Fields = slices.Clone(d.E.Fields)
	return d, true
}

// all are all.
func (l events) all() []api.Doc {
	var docs []api.Doc
	for i := range l {
		d, _ := l.at(i)
		docs = append(docs, d)
	}
	return docs
}

// within are the places of those whose times are from one to another one.
func (l events) within(from, to int) []int {
	var places []int
	for i, d := range l {
		if from <= d.E.At && d.E.At <= to {
			places = append(places, i)
		}
	}
	return places
}

// index tells where terms stand. Its bytes were looked over when it was opened.
type index struct {
	terms  *dict.Dict
	rows   []byte
	filter *bloom.Filter
}

// posts are a term's.
func (x index) posts(term string) []api.Post {
	e, ok := x.terms.Get(term)
	if !ok {
		return nil
	}
	l, _ := posting.Decode(x.rows[e.Off : e.Off+e.Len])
	return l
}

// may tells whether a term may be there. A filter that nobody made would tell of all that they may.
func (x index) may(term string) bool {
	return x.filter != nil && x.filter.May(term)
}

// begun are the terms that begin so.
func (x index) begun(p string) []string {
	var terms []string
	for _, e := range x.terms.Prefix(p) {
		terms = append(terms, e.Term)
	}
	return terms
}

// termCount is how many terms there are.
func (x index) termCount() int { return x.terms.Len() }

// footer is what the last section tells.
type footer struct{ part api.Part }

// footerOf is that of docs, of which there is one at least.
func footerOf(docs []api.Doc) footer {
	first, last := docs[0], docs[len(docs)-1]
	p := api.Part{Low: first.E.At, High: first.E.At, First: first.Seq, Last: last.Seq, N: len(docs)}
	for _, d := range docs {
		p.Low = min(p.Low, d.E.At)
		p.High = max(p.High, d.E.At)
	}
	return footer{part: p}
}

// told is that as a partition's.
func (f footer) told() api.Part { return f.part }

// bytes are the last section.
func (f footer) bytes() []byte {
	return varint.PutAll(nil, f.part.Low, f.part.High, f.part.First, f.part.Last, f.part.N)
}
