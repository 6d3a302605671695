// Package model follows rules until nothing new follows: see doc/07-eval.md.
package model

import (
	"deduce/api"
	"deduce/check"
	"deduce/facts"
	"deduce/kinds"
	"deduce/limits"
	"deduce/syntax"
	"deduce/walk"
)

// Model has all facts that are there so far.
type Model struct {
	*facts.Store
	rules   []api.Rule
	numbers map[string]int // of each name's level
	levels  []level
	most    int
	count   int // of facts
}

// level is what the rules whose heads have a name of it are followed with.
type level struct {
	relations []*facts.Relation // of its names
	first     []follower        // who follow the rules in the first round
	later     []follower        // and in those behind it
}

// Of answers the model of rules and relations, if it has no more than most facts
// (G2).
func Of(text string, given []api.Relation, most int) (*Model, api.Errno, int) {
	if most < 0 || most > limits.MaxFacts {
		return nil, api.ErrRange, 0
	}
	levels, errno, at := check.Levels(text)
	if errno != api.OK {
		return nil, errno, at
	}
	rules, _, _ := syntax.Parse(text)
	arities := aritiesOf(rules)
	tidy, errno, at := facts.Tidied(given, arities)
	if errno != api.OK {
		return nil, errno, at
	}
	m := &Model{Store: facts.New(), rules: rules, numbers: map[string]int{}, most: most}
	m.lay(levels, arities)
	if !m.give(tidy) || !m.follow() {
		return nil, api.ErrMany, 0
	}
	return m, api.OK, 0
}

// aritiesOf answers how many terms the atoms of each name have.
func aritiesOf(rules []api.Rule) map[string]int {
	arities := map[string]int{}
	for atom := range walk.Each(rules, walk.Atoms) {
		arities[atom.Name] = len(atom.Args)
	}
	return arities
}

// Rules answers the rules, in their order.
func (m *Model) Rules() []api.Rule { return m.rules }

// Level answers the number of a name's level.
func (m *Model) Level(name string) int { return m.numbers[name] }

// lay makes the levels ready, without facts.
func (m *Model) lay(levels []api.Level, arities map[string]int) {
	for _, l := range levels {
		m.numbers[l.Name] = l.Number
		for len(m.levels) <= l.Number {
			m.levels = append(m.levels, level{})
		}
		relation := m.Relation(l.Name, arities[l.Name])
		m.levels[l.Number].relations = append(m.levels[l.Number].relations, relation)
	}
	for _, rule := range m.rules {
		m.prepare(rule)
	}
}

// prepare lays down how a rule is followed: in the first round with all that is
// there; later, for each atom that may have something new, with that alone.
func (m *Model) prepare(rule api.Rule) {
	number := m.Level(rule.Head.Name)
	at := &m.levels[number]
	at.first = append(at.first, m.follower(rule))
	for place, part := range rule.Body {
		if part.Kind == kinds.Atom && m.Level(part.Atom.Name) == number {
			at.later = append(at.later, m.followerOf(rule, place))
		}
	}
}

// give adds relations that are given, and tells whether there are not too many
// facts.
func (m *Model) give(given []api.Relation) bool {
	for _, relation := range given {
		m.count += len(relation.Rows)
	}
	if m.count > m.most {
		return false
	}
	for _, relation := range given {
		m.Give(relation)
	}
	return true
}

// follow adds all that follows, level by level (G1), and tells whether there are
// not too many facts.
func (m *Model) follow() bool {
	for _, l := range m.levels {
		l.turn()
		followers := l.first
		for round := 1; ; round++ {
			if !m.round(followers, round) {
				return false
			}
			if !l.turn() {
				break
			}
			followers = l.later
		}
	}
	return true
}

// turn begins a round, and tells whether there is something new in it.
func (l level) turn() bool {
	news := false
	for _, relation := range l.relations {
		if relation.Turn() {
			news = true
		}
	}
	return news
}

// round adds what rules tell of the facts that were there when it began, and
// tells whether there are not too many facts.
func (m *Model) round(followers []follower, round int) bool {
	for _, f := range followers {
		if f.idle() {
			continue
		}
		for row := range f.news() {
			if f.head.Add(row, round) {
				m.count++
			}
			if m.count > m.most {
				return false
			}
		}
	}
	return true
}
