package ways

import (
	"slices"

	"deduce/kinds"
	"deduce/limits"
)

// arranged answers parts in the order in which they are looked at, where some
// variables are bound: the one whose place is first, if there is one, then each
// time the one of which most is bound.
func arranged(parts []part, first int, bound []bool) []part {
	left, bound := slices.Clone(parts), slices.Clone(bound)
	var order []part
	for len(left) > 0 {
		next := slices.IndexFunc(left, func(p part) bool { return p.place == first })
		if next < 0 {
			next = nearest(left, bound)
		}
		for _, variable := range variablesOf(left[next].terms) {
			bound[variable] = true
		}
		order = append(order, left[next])
		left = slices.Delete(left, next, next+1)
	}
	return order
}

// nearest answers the number of the first part that is to be looked at soonest.
func nearest(parts []part, bound []bool) int {
	best := 0
	for i, p := range parts {
		if distance(p, bound) < distance(parts[best], bound) {
			best = i
		}
	}
	return best
}

// distance tells how soon a part is to be looked at: the less, the sooner. A part
// other than an atom that still has variables must wait; but of two equal terms
// one tells the other one.
func distance(p part, bound []bool) int {
	open := 0
	for _, t := range p.terms {
		if t.variable && !bound[t.number] {
			open++
		}
	}
	switch {
	case open == 0, open == 1 && p.kind == kinds.Equal:
		return 0
	case p.kind != kinds.Atom:
		return limits.MaxArity + 2
	}
	return limits.MaxArity + 1 - (len(p.terms) - open)
}
