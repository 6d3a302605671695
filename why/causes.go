package why

import (
	"deduce/api"
	"deduce/facts"
	"deduce/kinds"
	"deduce/model"
	"deduce/ways"
)

// causes finds by which rule a fact of the model follows, and from what.
type causes struct {
	model   *model.Model
	choices map[int]*ways.Choice // by the rules' places: made when first asked for
}

func newCauses(m *model.Model) causes {
	return causes{model: m, choices: map[int]*ways.Choice{}}
}

// round answers the round in which a fact came.
func (c causes) round(f fact) int {
	round, _ := c.model.Relation(f.name, f.arity).Round(f.row)
	return round
}

// cause answers the number of the first rule that tells a fact of what was there
// ahead of its round, from 1 on, and the facts that its atoms are, on the least way
// (H2). There is one for each fact that is not given: the one that added it.
func (c causes) cause(f fact, round int) (int, []fact) {
	for i, rule := range c.model.Rules() {
		if rule.Head.Name != f.name {
			continue
		}
		if rows, some := c.choice(i, rule).Least(f.row, c.ahead(rule, round)); some {
			return i + 1, atomsOf(rule, rows)
		}
	}
	return 0, nil
}

// choice answers that of the rule at a place.
func (c causes) choice(i int, rule api.Rule) *ways.Choice {
	choice, made := c.choices[i]
	if !made {
		choice = ways.NewChoice(rule, c.model.Store)
		c.choices[i] = choice
	}
	return choice
}

// ahead answers where the atoms of a rule's body are looked for: where they are of
// the head's level among what came ahead of that round, else among all.
func (c causes) ahead(rule api.Rule, round int) ways.Look {
	level := c.model.Level(rule.Head.Name)
	return func(place int, relation *facts.Relation) facts.Span {
		if c.model.Level(rule.Body[place].Atom.Name) < level {
			return relation.All()
		}
		return relation.Before(round)
	}
}

// atomsOf answers the facts that the body's atoms are, where its parts are rows.
func atomsOf(rule api.Rule, rows []facts.Row) []fact {
	var list []fact
	for place, part := range rule.Body {
		if part.Kind == kinds.Atom {
			list = append(list, fact{name: part.Atom.Name, arity: len(part.Atom.Args), row: rows[place]})
		}
	}
	return list
}
