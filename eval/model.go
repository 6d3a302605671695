package eval

import (
	"deduce/api"
	"deduce/facts"
	"deduce/kinds"
)

// model has all facts that are there so far.
type model struct {
	store   *facts.Store
	numbers map[string]int // of each name's level
	levels  []level
	most    int
	count   int // of facts
}

// level is what the rules whose heads have a name of it are followed with.
type level struct {
	relations []*facts.Relation // of its names
	first     []follower        // who follow the rules in the first round
	later     []follower        // and in those behind it
}

// newModel answers a model without facts, of rules that were checked.
func newModel(rules []api.Rule, levels []api.Level, most int) *model {
	m := &model{store: facts.New(), numbers: map[string]int{}, most: most}
	arities := aritiesOf(rules)
	for _, l := range levels {
		m.numbers[l.Name] = l.Number
		for len(m.levels) <= l.Number {
			m.levels = append(m.levels, level{})
		}
		relation := m.store.Relation(l.Name, arities[l.Name])
		m.levels[l.Number].relations = append(m.levels[l.Number].relations, relation)
	}
	for _, rule := range rules {
		m.prepare(rule)
	}
	return m
}

// prepare lays down how a rule is followed: in the first round with all that is
// there; later, for each atom that may have something new, with that alone.
func (m *model) prepare(rule api.Rule) {
	number := m.numbers[rule.Head.Name]
	at := &m.levels[number]
	at.first = append(at.first, m.follower(rule))
	for place, part := range rule.Body {
		if part.Kind == kinds.Atom && m.numbers[part.Atom.Name] == number {
			at.later = append(at.later, m.followerOf(rule, place))
		}
	}
}

// give adds relations that are given, and tells whether there are not too many
// facts.
func (m *model) give(given []api.Relation) bool {
	for _, relation := range given {
		m.count += len(relation.Rows)
	}
	if m.count > m.most {
		return false
	}
	for _, relation := range given {
		m.store.Give(relation)
	}
	return true
}

// follow adds all that follows, level by level (G1), and tells whether there are
// not too many facts.
func (m *model) follow() bool {
	for _, l := range m.levels {
		l.turn()
		followers := l.first
		for round := 1; ; round++ {
			if !m.round(followers, round) {
				return false
			}
			if !l.turn() {
				break
			}
			followers = l.later
		}
	}
	return true
}

// turn begins a round, and tells whether there is something new in it.
func (l level) turn() bool {
	news := false
	for _, relation := range l.relations {
		if relation.Turn() {
			news = true
		}
	}
	return news
}

// round adds what rules tell of the facts that were there when it began, and
// tells whether there are not too many facts.
func (m *model) round(followers []follower, round int) bool {
	for _, f := range followers {
		if f.idle() {
			continue
		}
		for row := range f.news() {
			if f.head.Add(row, round) {
				m.count++
			}
			if m.count > m.most {
				return false
			}
		}
	}
	return true
}
