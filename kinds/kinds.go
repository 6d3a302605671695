// Package kinds names the kinds of a rule's parts: see doc/04-syntax.md, D2.
package kinds

const (
	Atom   = iota // an atom
	Not           // one behind 'not'
	Equal         // =
	Differ        // !=
	Less          // <
)
