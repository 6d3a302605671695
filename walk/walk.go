// Package walk hands out what stands in rules, from the left, by functions that
// are ranged over.
package walk

import (
	"iter"
	"slices"

	"deduce/api"
	"deduce/kinds"
)

// Each hands on, rule by rule, what a function hands out of one rule.
func Each[T any](rules []api.Rule, of func(api.Rule) iter.Seq[T]) iter.Seq[T] {
	return func(yield func(T) bool) {
		for _, rule := range rules {
			for thing := range of(rule) {
				if !yield(thing) {
					return
				}
			}
		}
	}
}

// Body hands out the atoms of a rule's body, each with its part's kind.
func Body(rule api.Rule) iter.Seq2[int, api.Atom] {
	return func(yield func(int, api.Atom) bool) {
		for _, part := range rule.Body {
			if !hasAtom(part) {
				continue
			}
			if !yield(part.Kind, part.Atom) {
				return
			}
		}
	}
}

// Atoms hands out all atoms of a rule.
func Atoms(rule api.Rule) iter.Seq[api.Atom] {
	return func(yield func(api.Atom) bool) {
		if !yield(rule.Head) {
			return
		}
		for _, atom := range Body(rule) {
			if !yield(atom) {
				return
			}
		}
	}
}

// Unbound hands out the variables that want to be bound by an atom of kind 0 in
// the body, and are not, wherever they stand.
func Unbound(rule api.Rule) iter.Seq[api.Term] {
	return func(yield func(api.Term) bool) {
		bound := binds(rule)
		for _, term := range wants(rule) {
			if _, has := bound[term.Text]; has || !term.Var {
				continue
			}
			if !yield(term) {
				return
			}
		}
	}
}

// binds answers the variables of the body's atoms of kind 0.
func binds(rule api.Rule) map[string]struct{} {
	bound := map[string]struct{}{}
	for kind, atom := range Body(rule) {
		if kind != kinds.Atom {
			continue
		}
		for _, term := range atom.Args {
			// A constant may have a variable's text, in quotes.
			if term.Var {
				bound[term.Text] = struct{}{}
			}
		}
	}
	return bound
}

// wants answers the terms that bind no variable.
func wants(rule api.Rule) []api.Term {
	terms := slices.Clone(rule.Head.Args)
	for _, part := range rule.Body {
		switch part.Kind {
		case kinds.Atom:
		case kinds.Not:
			terms = append(terms, part.Atom.Args...)
		default:
			terms = append(terms, part.Left, part.Right)
		}
	}
	return terms
}

func hasAtom(part api.Part) bool {
	return part.Kind == kinds.Atom || part.Kind == kinds.Not
}
