// Package ways finds the ways to put texts in the place of a rule's variables such
// that all of its body holds: see doc/07-eval.md and doc/08-why.md.
package ways

import (
	"slices"

	"deduce/api"
	"deduce/facts"
	"deduce/kinds"
	"deduce/limits"
)

// Nowhere is the place of no part.
const Nowhere = -1

// Plan is a rule that is ready to be followed.
type Plan struct {
	texts     *facts.Texts
	head      []term
	parts     []part // of the body, in the order in which they are looked at
	variables int
	given     []bool // of each variable whether it is bound ahead of all parts
	enough    int    // so many parts bind all variables of the head
	stops     []stop
}

// term is a variable or a constant.
type term struct {
	variable bool
	number   int // of the variable, or of the constant's text
}

// part is one of the body's parts: of its terms, in the place of which texts are
// put, there are rows in which it holds.
type part struct {
	kind     int
	place    int             // in the body
	relation *facts.Relation // of an atom
	terms    []term
}

// New makes a rule ready. The body's part at the place that is first is looked at
// ahead of all others; if there is no such part, the order is free.
func New(rule api.Rule, store *facts.Store, first int) *Plan {
	m := maker{store: store, variables: map[string]int{}}
	parts := m.parts(rule.Body)
	head := m.terms(rule.Head.Args)
	return m.plan(head, parts, first, make([]bool, len(m.variables)))
}

// maker gives variables numbers, in the order in which they first stand in the
// body, and constants those of the store.
type maker struct {
	store     *facts.Store
	variables map[string]int
}

func (m maker) parts(body []api.Part) []part {
	var parts []part
	for place, from := range body {
		to := part{kind: from.Kind, place: place}
		switch from.Kind {
		case kinds.Atom, kinds.Not:
			to.terms = m.terms(from.Atom.Args)
			to.relation = m.store.Relation(from.Atom.Name, len(from.Atom.Args))
		default:
			to.terms = m.terms([]api.Term{from.Left, from.Right})
		}
		parts = append(parts, to)
	}
	return parts
}

func (m maker) terms(from []api.Term) []term {
	var terms []term
	for _, t := range from {
		terms = append(terms, m.term(t))
	}
	return terms
}

func (m maker) term(from api.Term) term {
	if !from.Var {
		return term{number: m.store.Number(from.Text)}
	}
	number, known := m.variables[from.Text]
	if !known {
		number = len(m.variables)
		m.variables[from.Text] = number
	}
	return term{variable: true, number: number}
}

// plan answers how the parts are looked at where some variables are given.
func (m maker) plan(head []term, parts []part, first int, given []bool) *Plan {
	p := &Plan{texts: &m.store.Texts, head: head, variables: len(m.variables), given: given}
	p.parts = arranged(parts, first, given)
	p.enough = p.enoughParts()
	for done := range p.parts {
		p.stops = append(p.stops, p.stop(done))
	}
	return p
}

// enoughParts tells how many parts there are up to the last one that binds a
// variable of the head.
func (p *Plan) enoughParts() int {
	wanted := p.free(p.head)
	for done := range p.parts {
		if within(wanted, p.free(termsOf(p.parts[:done]))) {
			return done
		}
	}
	return len(p.parts)
}

// stop tells what the parts that are left hang on, when so many are done. Where a
// variable is forgotten, ways that differ in it alone go on alike.
type stop struct {
	kept    []int // the bound variables that are still asked for
	forgets bool  // whether the last part has a variable that no longer is
	forgot  bool  // whether any part ahead has one
}

// stop answers that of so many parts. Where more variables are kept than a row has
// columns, a search would seldom come the same way again: nothing is kept in mind.
func (p *Plan) stop(done int) stop {
	if done == 0 {
		return stop{}
	}
	bound := p.free(termsOf(p.parts[:done]))
	asked := p.free(slices.Concat(p.head, termsOf(p.parts[done:])))
	kept := slices.DeleteFunc(slices.Clone(bound), func(variable int) bool {
		return !slices.Contains(asked, variable)
	})
	if len(kept) > limits.MaxArity {
		return stop{}
	}
	last := p.free(p.parts[done-1].terms)
	return stop{kept: kept, forgets: !within(last, asked), forgot: len(kept) < len(bound)}
}

// free answers the variables among terms that are not given.
func (p *Plan) free(terms []term) []int {
	return slices.DeleteFunc(variablesOf(terms), func(variable int) bool { return p.given[variable] })
}

func termsOf(parts []part) []term {
	var terms []term
	for _, p := range parts {
		terms = append(terms, p.terms...)
	}
	return terms
}

// variablesOf answers the numbers of the variables among terms, rising.
func variablesOf(terms []term) []int {
	var numbers []int
	for _, t := range terms {
		if t.variable {
			numbers = append(numbers, t.number)
		}
	}
	slices.Sort(numbers)
	return slices.Compact(numbers)
}

// within tells whether all of one list are in the other one.
func within(some, all []int) bool {
	return !slices.ContainsFunc(some, func(number int) bool { return !slices.Contains(all, number) })
}
