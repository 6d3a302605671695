package ask

import (
	"slices"

	"deduce/api"
	"deduce/facts"
	"deduce/kinds"
	"deduce/order"
	"deduce/walk"
	"deduce/ways"
)

// question is a query, and the relations that it may ask of.
type question struct {
	parts     []api.Part
	relations []api.Relation
}

// rule answers a rule with the query as its body.
func (q question) rule() api.Rule { return api.Rule{Body: q.parts} }

// fault tells the first atom with another arity than its relation's; if there is
// none, the first variable that no atom binds.
func (q question) fault() (api.Errno, int) {
	arities := map[string]int{}
	for _, relation := range q.relations {
		arities[relation.Name] = relation.Arity
	}
	for _, atom := range walk.Body(q.rule()) {
		if arity, known := arities[atom.Name]; known && arity != len(atom.Args) {
			return api.ErrArity, atom.At
		}
	}
	for term := range walk.Unbound(q.rule()) {
		return api.ErrSafe, term.At
	}
	return api.OK, 0
}

// variables answers the variables, each once, in the order in which they first
// stand in the query.
func (q question) variables() []string {
	var names []string
	for _, part := range q.parts {
		for _, term := range termsOf(part) {
			if term.Var {
				names = append(names, term.Text)
			}
		}
	}
	ahead := map[string]struct{}{}
	return slices.DeleteFunc(names, func(name string) bool {
		_, twice := ahead[name]
		ahead[name] = struct{}{}
		return twice
	})
}

// termsOf answers the terms of a part, by its kind.
func termsOf(part api.Part) []api.Term {
	args, sides := part.Atom.Args, []api.Term{part.Left, part.Right}
	return [...][]api.Term{
		kinds.Atom:   args,
		kinds.Not:    args,
		kinds.Equal:  sides,
		kinds.Differ: sides,
		kinds.Less:   sides,
	}[part.Kind]
}

// answers answers a row of texts for each way in which all parts hold, rising.
func (q question) answers() [][]string {
	store := q.store()
	plan := ways.New(q.rule(), store, ways.Nowhere)
	var list [][]string
	for way := range plan.Ways(everywhere) {
		list = append(list, store.TextsOf(way))
	}
	return order.Settle(list)
}

// store answers a store with the facts that the query's atoms may be. (Most rows
// of a model may be none of these.)
func (q question) store() *facts.Store {
	store := facts.New()
	atoms := q.atoms()
	for i := range q.relations {
		relation := &q.relations[i]
		relation.Rows = slices.DeleteFunc(relation.Rows, func(row []string) bool {
			return !slices.ContainsFunc(atoms[relation.Name], func(atom api.Atom) bool {
				return fits(atom, row)
			})
		})
		store.Give(*relation)
		store.Relation(relation.Name, relation.Arity).Turn()
	}
	return store
}

// atoms answers the query's atoms, by their names.
func (q question) atoms() map[string][]api.Atom {
	atoms := map[string][]api.Atom{}
	for _, atom := range walk.Body(q.rule()) {
		atoms[atom.Name] = append(atoms[atom.Name], atom)
	}
	return atoms
}

// fits tells whether a row has an atom's constants.
func fits(atom api.Atom, row []string) bool {
	for column, term := range atom.Args {
		if !term.Var && term.Text != row[column] {
			return false
		}
	}
	return true
}

// everywhere looks at all rows of a relation.
func everywhere(_ int, relation *facts.Relation) facts.Span { return relation.All() }
