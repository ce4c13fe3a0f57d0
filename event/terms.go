package event

import (
	"cmp"
	"iter"
	"slices"

	"loggia/api"
	"loggia/token"
)

// fieldGap is how many places are free between two fields' words, so that no phrase goes over from one to the other.
const fieldGap = 64

// Term is a term of an event, and where it stands.
type Term struct {
	S   string
	Pos []int
}

// Terms are an event's terms, by rising terms.
func Terms(e api.Event) []Term {
	if Check(e) != api.OK {
		return nil
	}
	places := map[string][]int{}
	for base, f := range fieldsOf(e) {
		for _, t := range f.tokens {
			s := f.name + ":" + t.Word
			places[s] = append(places[s], base+t.Pos)
		}
	}
	terms := make([]Term, 0, len(places))
	for s, pos := range places {
		terms = append(terms, Term{S: s, Pos: pos})
	}
	slices.SortFunc(terms, func(a, b Term) int { return cmp.Compare(a.S, b.S) })
	return terms
}

// field is a field whose text was read.
type field struct {
	name   string
	tokens []api.Token
}

// fieldsOf tells an event's fields, in order, with their bases.
func fieldsOf(e api.Event) iter.Seq2[int, field] {
	return func(yield func(int, field) bool) {
		base := 0
		for _, f := range e.Fields {
			tokens := token.Tokens(f.Text)
			if !yield(base, field{name: f.Name, tokens: tokens}) {
				return
			}
			base += fieldGap + len(tokens)
		}
	}
}
