package segment

import (
	"bytes"
	"maps"
	"slices"

	"loggia/api"
	"loggia/bloom"
	"loggia/dict"
	"loggia/event"
	"loggia/frame"
	"loggia/posting"
	"loggia/stored"
	"loggia/varint"
)

// beginning is what stands ahead of the sections' frames.
const beginning = "LSEG"

// The sections' places.
const (
	docsSection = iota
	timesSection
	rowsSection
	dictSection
	filterSection
	footerSection
	sectionCount
)

// sectionsOf are the sections of a row of docs that may be; that none has more than MaxFrame bytes is still to be asked. ErrLong: one surely has, or there are too many terms.
func sectionsOf(docs []api.Doc) ([][]byte, api.Errno) {
	if sizeOfTexts(docs) > api.MaxFrame { // asked first, for a row's texts may be far too long to be gone through
		return nil, api.ErrLong
	}
	posts, ok := postsOf(docs)
	if !ok {
		return nil, api.ErrLong
	}
	terms := slices.Sorted(maps.Keys(posts))
	rows, entries := rowsOf(terms, posts)
	dictionary, _ := dict.Encode(entries...) // nothing, if it can't tell all places in the rows, which then are far too long
	first, _ := stored.Encode(docs)          // a row that may be
	l := make([][]byte, sectionCount)
	l[docsSection] = first
	l[timesSection] = timesOf(docs)
	l[rowsSection] = rows
	l[dictSection] = dictionary
	l[filterSection] = bloom.Of(terms...).Bytes()
	l[footerSection] = footerOf(docs).bytes()
	return l, api.OK
}

// sizeOfTexts is how many bytes all names and texts have; the docs' section has more.
func sizeOfTexts(docs []api.Doc) int {
	size := 0
	for _, d := range docs {
		size += event.Size(d.E) - event.Size(api.Event{})
	}
	return size
}

// timesOf are the bytes of docs' times, each told as how much it is above the one ahead, which goes round.
func timesOf(docs []api.Doc) []byte {
	var steps []int
	ahead := 0
	for _, d := range docs {
		steps = append(steps, d.E.At-ahead)
		ahead = d.E.At
	}
	return varint.PutAll(nil, steps...)
}

// postsOf are the posts of each term of docs; false: there are too many terms.
func postsOf(docs []api.Doc) (posts map[string][]api.Post, ok bool) {
	posts = map[string][]api.Post{}
	for i, d := range docs {
		for _, t := range event.Terms(d.E) {
			posts[t.S] = append(posts[t.S], api.Post{Doc: i, Pos: t.Pos})
		}
		if len(posts) > api.MaxTerms {
			return nil, false
		}
	}
	return posts, true
}

// rowsOf are the rows of terms, one behind the other, and where each of them stands.
func rowsOf(terms []string, posts map[string][]api.Post) (rows []byte, entries []dict.Entry) {
	for _, term := range terms {
		row, _ := posting.Encode(posts[term]) // a row that may be, for an event's words have fewer places than there may be
		entries = append(entries, dict.Entry{Term: term, Off: len(rows), Len: len(row), N: len(posts[term])})
		rows = append(rows, row...)
	}
	return rows, entries
}

// sectionsIn are the sections in bytes, whatever they tell, in new memory; false: not so many frames stand there, or something else.
func sectionsIn(b []byte) (l [][]byte, ok bool) {
	left, ok := bytes.CutPrefix(b, []byte(beginning))
	if !ok {
		return nil, false
	}
	for range sectionCount {
		section, rest, e := frame.Get(left)
		if e != api.OK {
			return nil, false
		}
		l = append(l, section)
		left = rest
	}
	return l, len(left) == 0
}
