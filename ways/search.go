package ways

import (
	"iter"
	"slices"

	"deduce/facts"
	"deduce/kinds"
)

// mostMarks bounds what a search keeps in mind of so many parts done. When it has
// that much, it forgets all of it, and may make some of the search again.
const mostMarks = 1 << 16

// Look tells which rows of its relation the atom at a place of the body may be.
type Look func(place int, relation *facts.Relation) facts.Span

// Heads hands out the rows that the head is in some way, each at least once, but
// for those that are known by then. What is handed out may be made known at once.
func (p *Plan) Heads(look Look, known func(facts.Row) bool) iter.Seq[facts.Row] {
	return p.heads(open(p.variables), look, known)
}

// heads does so beside what is bound on a way.
func (p *Plan) heads(on way, look Look, known func(facts.Row) bool) iter.Seq[facts.Row] {
	return func(yield func(facts.Row) bool) {
		s := p.search(on, look)
		for way := range s.ways(0, p.enough) {
			_, head := way.bound(p.head)
			if known(head) {
				continue
			}
			// One way is enough: all others have the same head.
			for range s.ways(p.enough, len(p.parts)) {
				if !yield(head) {
					return
				}
				break
			}
		}
	}
}

// Ways hands out every way, each once: the numbers of the texts, in the order in
// which the variables first stand in the body. It stands until the next one is
// asked for.
func (p *Plan) Ways(look Look) iter.Seq[[]int] {
	return func(yield func([]int) bool) {
		s := p.search(open(p.variables), look)
		s.every = true
		for way := range s.ways(0, len(p.parts)) {
			if !yield(way) {
				return
			}
		}
	}
}

// search goes through the ways of a plan.
type search struct {
	plan  *Plan
	look  Look
	way   way
	every bool // whether every way is wanted, or one for each head
	// marks has of so many parts done the texts in the place of what the others
	// hang on, with which it is not to be gone on. (Those of few parts spare most:
	// they are not forgotten for those of many.)
	marks []map[facts.Row]struct{}
}

func (p *Plan) search(on way, look Look) *search {
	return &search{plan: p, look: look, way: slices.Clone(on), marks: make([]map[facts.Row]struct{}, len(p.parts))}
}

// ways hands out each way in which the parts from the one number on, up to the
// other, hold beside what is bound. It stands until the next one is asked for.
func (s *search) ways(done, all int) iter.Seq[way] {
	return func(yield func(way) bool) {
		if done == all {
			yield(s.way)
			return
		}
		if s.marked(done) {
			return
		}
		some := false
		for range s.holds(s.plan.parts[done]) {
			for way := range s.ways(done+1, all) {
				some = true
				if !yield(way) {
					return
				}
			}
		}
		// From here there is nothing, or there are heads that have been found.
		if !some || !s.every {
			s.mark(done)
		}
	}
}

// marked tells whether it is not to be gone on with what is bound.
func (s *search) marked(done int) bool {
	if !s.forgetful(done) {
		return false
	}
	_, is := s.marks[done][s.kept(done)]
	return is
}

// mark keeps in mind not to go on again with what is bound, if it may be bound so
// again.
func (s *search) mark(done int) {
	if !s.forgetful(done) {
		return
	}
	if s.marks[done] == nil {
		s.marks[done] = map[facts.Row]struct{}{}
	}
	if len(s.marks[done]) == mostMarks {
		clear(s.marks[done])
	}
	s.marks[done][s.kept(done)] = struct{}{}
}

// kept answers the texts of what is bound and still asked for.
func (s *search) kept(done int) facts.Row {
	var texts facts.Row
	for i, variable := range s.plan.stops[done].kept {
		texts[i] = s.way[variable]
	}
	return texts
}

// forgetful tells whether with so many parts done the same may be bound again. A
// search for heads is stopped where a variable has just been forgotten, and so does
// not come again to what is behind; one for every way may.
func (s *search) forgetful(done int) bool {
	stop := s.plan.stops[done]
	return stop.forgets || s.every && stop.forgot
}

// holds hands out a turn for each way in which a part holds, with what the part
// has bound in it.
func (s *search) holds(p part) func(func() bool) {
	return func(yield func() bool) {
		for row := range s.rows(p) {
			takeBack, fits := s.way.put(p.terms, row)
			goOn := !fits || yield()
			takeBack()
			if !goOn {
				return
			}
		}
	}
}

// rows hands out rows, among them all in which a part holds and that have the
// texts that are bound.
func (s *search) rows(p part) iter.Seq[facts.Row] {
	columns, row := s.way.bound(p.terms)
	switch p.kind {
	case kinds.Atom:
		return p.relation.Rows(columns, row, s.look(p.place, p.relation))
	case kinds.Equal:
		return only(s.same(p), true)
	}
	return only(row, s.passes(p, row))
}

// only hands out a row, if it is one.
func only(row facts.Row, is bool) iter.Seq[facts.Row] {
	return func(yield func(facts.Row) bool) {
		if is {
			yield(row)
		}
	}
}

// same answers the row in which both terms are the text of the first one that is
// bound.
func (s *search) same(p part) facts.Row {
	text, has := s.way.text(p.terms[0])
	if !has {
		text, _ = s.way.text(p.terms[1])
	}
	return facts.Row{text, text}
}

// passes tells whether a part that binds nothing holds.
func (s *search) passes(p part, row facts.Row) bool {
	switch p.kind {
	case kinds.Not:
		return !p.relation.Has(row)
	case kinds.Differ:
		return row[0] != row[1]
	}
	return s.plan.texts.Text(row[0]) < s.plan.texts.Text(row[1])
}
