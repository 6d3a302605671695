package ways

import (
	"slices"

	"deduce/api"
	"deduce/facts"
)

// Choice is a rule of which the least way is found in which its head is a row: by
// the texts in the place of the variables, in the order in which these first stand
// in the body.
type Choice struct {
	head      []term
	parts     []part // of the body, in their order
	variables int
	steps     []*Plan
}

// NewChoice makes a rule ready.
func NewChoice(rule api.Rule, store *facts.Store) *Choice {
	m := maker{store: store, variables: map[string]int{}}
	parts := m.parts(rule.Body)
	head := m.terms(rule.Head.Args)
	return &Choice{head: head, parts: parts, variables: len(m.variables), steps: m.steps(head, parts)}
}

// steps answers a plan for each variable that the head does not bind: of what that
// may be, where the head's are given, and those ahead of it. Without such variables
// there is one for whether there is a way at all.
func (m maker) steps(head []term, parts []part) []*Plan {
	given := make([]bool, len(m.variables))
	for _, variable := range variablesOf(head) {
		given[variable] = true
	}
	var steps []*Plan
	for variable, is := range slices.Clone(given) {
		if is {
			continue
		}
		wanted := []term{{variable: true, number: variable}}
		steps = append(steps, m.plan(wanted, parts, Nowhere, slices.Clone(given)))
		given[variable] = true
	}
	if len(steps) == 0 {
		steps = append(steps, m.plan(nil, parts, Nowhere, given))
	}
	return steps
}

// Least answers what the body's parts are on the least way in which the head is
// that row, in their order: the rows of their terms. It tells whether there is one.
func (c *Choice) Least(head facts.Row, look Look) ([]facts.Row, bool) {
	w := open(c.variables)
	if _, fits := w.put(c.head, head); !fits {
		return nil, false
	}
	for _, step := range c.steps {
		row, some := step.least(w, look)
		if !some {
			return nil, false
		}
		w.put(step.head, row)
	}
	var rows []facts.Row
	for _, p := range c.parts {
		_, row := w.bound(p.terms)
		rows = append(rows, row)
	}
	return rows, true
}

// least answers the row with the least text that the head, of at most one term, is
// on some way beside what is bound.
func (p *Plan) least(on way, look Look) (facts.Row, bool) {
	var best facts.Row
	some := false
	isNotLess := func(row facts.Row) bool {
		return some && p.texts.Text(row[0]) >= p.texts.Text(best[0])
	}
	for row := range p.heads(on, look, isNotLess) {
		best, some = row, true
	}
	return best, some
}
