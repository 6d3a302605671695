package ways

import (
	"slices"

	"deduce/facts"
)

// none stands in the place of a variable as long as no text does.
const none = -1

// way has in the place of each variable the number of a text, or none.
type way []int

// open answers a way on which nothing is bound.
func open(variables int) way { return slices.Repeat(way{none}, variables) }

// text answers the number of the text that a term is, if it is bound.
func (w way) text(t term) (int, bool) {
	if !t.variable {
		return t.number, true
	}
	return w[t.number], w[t.number] != none
}

// bound answers what is bound of terms: in which columns, and a row with their
// texts there.
func (w way) bound(terms []term) (facts.Columns, facts.Row) {
	var columns facts.Columns
	var row facts.Row
	for column, t := range terms {
		if text, has := w.text(t); has {
			columns = columns.With(column)
			row[column] = text
		}
	}
	return columns, row
}

// put puts a row in the place of terms, and tells whether they can be that row.
// What it answers first takes back what the row has bound.
func (w way) put(terms []term, row facts.Row) (func(), bool) {
	var bound []int
	takeBack := func() {
		for _, variable := range bound {
			w[variable] = none
		}
	}
	for column, t := range terms {
		text, has := w.text(t)
		if !has {
			w[t.number] = row[column]
			bound = append(bound, t.number)
			continue
		}
		if text != row[column] {
			return takeBack, false
		}
	}
	return takeBack, true
}
