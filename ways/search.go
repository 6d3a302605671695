package ways

import (
	"iter"

	"deduce/facts"
	"deduce/kinds"
)

// mostVisits bounds what a search keeps in mind. When it has that much, it forgets
// all of it, and may make some of the search again.
const mostVisits = 1 << 18

// Look tells which rows of its relation the atom at a place of the body may be.
type Look func(place int, relation *facts.Relation) facts.Span

// Heads hands out the rows that the head is in some way, each at least once, but
// for those that are known by then. What is handed out may be made known at once.
func (p *Plan) Heads(look Look, known func(facts.Row) bool) iter.Seq[facts.Row] {
	return func(yield func(facts.Row) bool) {
		s := &search{plan: p, look: look, way: open(p.variables), been: map[visit]struct{}{}}
		for way := range s.ways(0, p.enough) {
			_, head := way.bound(p.head)
			if known(head) {
				continue
			}
			// One way is enough: all others have the same head.
			for range s.ways(p.enough, len(p.parts)) {
				if !yield(head) {
					return
				}
				break
			}
		}
	}
}

// search goes through the ways of a plan.
type search struct {
	plan *Plan
	look Look
	way  way
	been map[visit]struct{}
}

// visit is how many parts were done, and with which texts in the place of what
// the others hang on.
type visit struct {
	done  int
	texts facts.Row
}

// ways hands out each way in which the parts from the one number on, up to the
// other, hold beside what is bound. It stands until the next one is asked for.
func (s *search) ways(done, all int) iter.Seq[way] {
	return func(yield func(way) bool) {
		if done == all {
			yield(s.way)
			return
		}
		if s.again(done) {
			return
		}
		for range s.holds(s.plan.parts[done]) {
			for way := range s.ways(done+1, all) {
				if !yield(way) {
					return
				}
			}
		}
	}
}

// again tells whether so many parts have been done before with the same texts for
// all that is still asked for: what is found from here on has been found then.
func (s *search) again(done int) bool {
	stop := s.plan.stops[done]
	if !stop.forgets {
		return false
	}
	v := visit{done: done}
	for i, variable := range stop.kept {
		v.texts[i] = s.way[variable]
	}
	_, been := s.been[v]
	if len(s.been) == mostVisits {
		clear(s.been)
	}
	s.been[v] = struct{}{}
	return been
}

// holds hands out a turn for each way in which a part holds, with what the part
// has bound in it.
func (s *search) holds(p part) func(func() bool) {
	return func(yield func() bool) {
		for row := range s.rows(p) {
			takeBack, fits := s.way.put(p.terms, row)
			goOn := !fits || yield()
			takeBack()
			if !goOn {
				return
			}
		}
	}
}

// rows hands out rows, among them all in which a part holds and that have the
// texts that are bound.
func (s *search) rows(p part) iter.Seq[facts.Row] {
	columns, row := s.way.bound(p.terms)
	switch p.kind {
	case kinds.Atom:
		return p.relation.Rows(columns, row, s.look(p.place, p.relation))
	case kinds.Equal:
		return only(s.same(p), true)
	}
	return only(row, s.passes(p, row))
}

// only hands out a row, if it is one.
func only(row facts.Row, is bool) iter.Seq[facts.Row] {
	return func(yield func(facts.Row) bool) {
		if is {
			yield(row)
		}
	}
}

// same answers the row in which both terms are the text of the first one that is
// bound.
func (s *search) same(p part) facts.Row {
	text, has := s.way.text(p.terms[0])
	if !has {
		text, _ = s.way.text(p.terms[1])
	}
	return facts.Row{text, text}
}

// passes tells whether a part that binds nothing holds.
func (s *search) passes(p part, row facts.Row) bool {
	switch p.kind {
	case kinds.Not:
		return !p.relation.Has(row)
	case kinds.Differ:
		return row[0] != row[1]
	}
	return s.plan.texts.Text(row[0]) < s.plan.texts.Text(row[1])
}
