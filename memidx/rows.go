package memidx

import (
	"maps"
	"slices"
	"strings"

	"loggia/api"
	"loggia/event"
)

// rows are the posts of each term that some doc has.
type rows map[string][]api.Post

// add puts the terms of the doc at a place behind those of the docs ahead of it.
func (r rows) add(place int, e api.Event) {
	for _, t := range event.Terms(e) {
		r[t.S] = append(r[t.S], api.Post{Doc: place, Pos: t.Pos})
	}
}

// terms are all, rising.
func (r rows) terms() []string { return slices.Sorted(maps.Keys(r)) }

// posts are a term's, in new memory.
func (r rows) posts(term string) []api.Post {
	l := slices.Clone(r[term])
	for i := range l {
		l[i].Pos = slices.Clone(l[i].Pos)
	}
	return l
}

// begun are the posts of all terms that begin so, one a doc.
func (r rows) begun(begin string) []api.Post {
	places := map[int][]int{} // by docs; as many as there are: no two of a doc's terms stand at one place
	for term, row := range r {
		if !strings.HasPrefix(term, begin) {
			continue
		}
		for _, p := range row {
			places[p.Doc] = append(places[p.Doc], p.Pos...)
		}
	}
	posts := make([]api.Post, 0, len(places))
	for _, doc := range slices.Sorted(maps.Keys(places)) {
		slices.Sort(places[doc])
		posts = append(posts, api.Post{Doc: doc, Pos: places[doc]})
	}
	return posts
}

// fork is rows like these, in new memory.
func (r rows) fork() rows {
	other := make(rows, len(r))
	for term := range r {
		other[term] = r.posts(term)
	}
	return other
}
