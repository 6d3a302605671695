// Package facts keeps facts, and finds those that have given texts in some of
// their columns.
package facts

import (
	"maps"
	"slices"

	"deduce/api"
	"deduce/rows"
)

// Store has the facts of all names.
type Store struct {
	Texts
	relations map[string]*Relation
}

// New answers a store without facts.
func New() *Store {
	return &Store{Texts: Texts{numbers: map[string]int{}}, relations: map[string]*Relation{}}
}

// Relation answers what is kept of a name, and begins it with that arity if there
// is nothing yet.
func (s *Store) Relation(name string, arity int) *Relation {
	r := s.relations[name]
	if r == nil {
		r = newRelation(arity)
		s.relations[name] = r
	}
	return r
}

// Give adds the rows of a relation that is given: to its round 0.
func (s *Store) Give(given api.Relation) {
	r := s.Relation(given.Name, given.Arity)
	for _, texts := range given.Rows {
		var row Row
		for column, text := range texts {
			row[column] = s.Number(text)
		}
		r.Add(row, 0)
	}
}

// Row answers the row of a fact, if it is there.
func (s *Store) Row(name string, texts []string) (Row, bool) {
	r := s.relations[name]
	if r == nil || len(texts) != r.arity {
		return Row{}, false
	}
	var row Row
	for column, text := range texts {
		number, known := s.find(text)
		if !known {
			return Row{}, false
		}
		row[column] = number
	}
	return row, r.Has(row)
}

// Round answers the round in which a fact came, if it is there.
func (s *Store) Round(name string, texts []string) (int, bool) {
	row, there := s.Row(name, texts)
	if !there {
		return 0, false
	}
	return s.relations[name].Round(row)
}

// Relations answers all that is kept, by the names, rising, with rows that rise.
func (s *Store) Relations() []api.Relation {
	var list []api.Relation
	for _, name := range slices.Sorted(maps.Keys(s.relations)) {
		r := s.relations[name]
		list = append(list, api.Relation{Name: name, Arity: r.arity, Rows: s.rowsOf(r)})
	}
	return list
}

func (s *Store) rowsOf(r *Relation) [][]string {
	var list [][]string
	for _, row := range r.rows {
		list = append(list, s.TextsOf(row[:r.arity]))
	}
	return rows.Rise(list)
}
