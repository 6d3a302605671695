package model

import (
	"iter"

	"deduce/api"
	"deduce/facts"
	"deduce/ways"
)

// follower follows a rule. Of the atom at its place it looks at new facts alone,
// so that no two followers of a rule go the same way: of those ahead of it at old
// ones, of those behind it at all.
type follower struct {
	head  *facts.Relation
	plan  *ways.Plan
	place int
	part  *facts.Relation // of the atom at that place
}

// follower answers one who follows a rule with all that is there.
func (m *Model) follower(rule api.Rule) follower {
	return follower{head: m.relationOf(rule.Head), plan: ways.New(rule, m.Store, ways.Nowhere), place: ways.Nowhere}
}

// followerOf answers one who follows a rule with what is new of one of its atoms.
func (m *Model) followerOf(rule api.Rule, place int) follower {
	return follower{
		head:  m.relationOf(rule.Head),
		plan:  ways.New(rule, m.Store, place),
		place: place,
		part:  m.relationOf(rule.Body[place].Atom),
	}
}

func (m *Model) relationOf(atom api.Atom) *facts.Relation {
	return m.Relation(atom.Name, len(atom.Args))
}

// idle tells whether there is nothing new to look at.
func (f follower) idle() bool { return f.place != ways.Nowhere && f.part.New().Empty() }

// news hands out the rows that the rule tells of and the head's relation has not.
func (f follower) news() iter.Seq[facts.Row] {
	return f.plan.Heads(f.look, f.head.Has)
}

func (f follower) look(place int, relation *facts.Relation) facts.Span {
	switch {
	case place == f.place:
		return relation.New()
	case place < f.place:
		return relation.Old()
	}
	return relation.All()
}
