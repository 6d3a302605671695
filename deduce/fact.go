package deduce

import (
	"deduce/api"
	"deduce/kinds"
	"deduce/syntax"
)

// factPlace is what a place in a fact's text is raised by, so that it is not taken
// for one in the program.
const factPlace = 1000000

// readFact answers the name and the texts of a fact that is written as a query of
// one atom.
func readFact(text string) (string, []string, api.Errno, int) {
	parts, errno, at := syntax.Query(text)
	if errno != api.OK {
		return "", nil, errno, factPlace + at
	}
	if len(parts) != 1 || parts[0].Kind != kinds.Atom {
		return "", nil, api.ErrText, factPlace
	}
	atom := parts[0].Atom
	var row []string
	for _, term := range atom.Args {
		if term.Var {
			return "", nil, api.ErrText, factPlace
		}
		row = append(row, term.Text)
	}
	return atom.Name, row, api.OK, 0
}
