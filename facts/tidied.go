package facts

import (
	"deduce/api"
	"deduce/file"
)

// Tidied answers relations tidied, if each can be, no two have one name, and a
// name that has an arity among these has that one. Else the number of the first
// relation that is not so.
func Tidied(given []api.Relation, arities map[string]int) ([]api.Relation, api.Errno, int) {
	var list []api.Relation
	ahead := map[string]struct{}{}
	for i, relation := range given {
		tidy, errno, _ := file.Tidy(relation)
		if errno != api.OK {
			return nil, errno, i
		}
		if _, twice := ahead[tidy.Name]; twice {
			return nil, api.ErrTwice, i
		}
		if arity, used := arities[tidy.Name]; used && arity != tidy.Arity {
			return nil, api.ErrArity, i
		}
		ahead[tidy.Name] = struct{}{}
		list = append(list, tidy)
	}
	return list, api.OK, 0
}
