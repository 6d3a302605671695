package eval

import (
	"iter"

	"deduce/api"
	"deduce/facts"
	"deduce/ways"
)

// nowhere is the place of no part.
const nowhere = -1

// follower follows a rule. Of the atom at its place it looks at new facts alone,
// so that no two followers of a rule go the same way: of those ahead of it at old
// ones, of those behind it at all.
type follower struct {
	head  *facts.Relation
	plan  *ways.Plan
	place int
	part  *facts.Relation // of the atom at that place
}

// follower answers one who follows a rule with all that is there.
func (m *model) follower(rule api.Rule) follower {
	return follower{head: m.relation(rule.Head), plan: ways.New(rule, m.store, nowhere), place: nowhere}
}

// followerOf answers one who follows a rule with what is new of one of its atoms.
func (m *model) followerOf(rule api.Rule, place int) follower {
	return follower{
		head:  m.relation(rule.Head),
		plan:  ways.New(rule, m.store, place),
		place: place,
		part:  m.relation(rule.Body[place].Atom),
	}
}

func (m *model) relation(atom api.Atom) *facts.Relation {
	return m.store.Relation(atom.Name, len(atom.Args))
}

// idle tells whether there is nothing new to look at.
func (f follower) idle() bool { return f.place != nowhere && f.part.New().Empty() }

// news hands out the rows that the rule tells of and the head's relation has not.
func (f follower) news() iter.Seq[facts.Row] {
	return f.plan.Heads(f.look, f.head.Has)
}

func (f follower) look(place int, relation *facts.Relation) facts.Span {
	switch {
	case place == f.place:
		return relation.New()
	case place < f.place:
		return relation.Old()
	}
	return relation.All()
}
