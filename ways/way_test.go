package ways

import (
	"slices"
	"testing"

	"deduce/api"
	"deduce/facts"
	"deduce/syntax"
)

// However far a loop over ways goes, when it is left nothing is bound any more.
func TestWaysTakeBack(t *testing.T) {
	s := facts.New()
	s.Give(api.Relation{Name: "e", Arity: 2, Rows: [][]string{{"a", "b"}, {"b", "c"}, {"b", "b"}, {"c", "a"}}})
	s.Relation("e", 2).Turn()
	rules, _, _ := syntax.Parse("p(X,Z,U) :- e(X,Y), e(Y,Z), U = Z, e(V,V), not e(Z,X), e(U,W).")
	p := New(rules[0], s, -1)
	all := func(_ int, r *facts.Relation) facts.Span { return r.All() }
	for most := range 9 {
		search := p.search(open(p.variables), all)
		count := 0
		for way := range search.ways(0, len(p.parts)) {
			if slices.Contains(way, none) {
				t.Errorf("a way on which not all is bound: %v", way)
			}
			if count == most {
				break
			}
			count++
		}
		if slices.ContainsFunc(search.way, func(text int) bool { return text != none }) {
			t.Errorf("left at %d: %v is bound", most, search.way)
		}
		if count == 0 && most > 0 {
			t.Error("no way")
		}
	}
}

func TestPut(t *testing.T) {
	x, y, five := term{true, 0}, term{true, 1}, term{false, 5}
	for _, c := range []struct {
		terms []term
		row   facts.Row
		fits  bool
		then  way
	}{
		{nil, facts.Row{}, true, way{none, 7}},
		{[]term{x}, facts.Row{3}, true, way{3, 7}},
		{[]term{x, x}, facts.Row{3, 3}, true, way{3, 7}},
		{[]term{x, x}, facts.Row{3, 4}, false, nil},
		{[]term{x, y}, facts.Row{3, 7}, true, way{3, 7}},
		{[]term{x, y}, facts.Row{3, 8}, false, nil},
		{[]term{y, x, five}, facts.Row{7, 0, 5}, true, way{0, 7}},
		{[]term{y, x, five}, facts.Row{7, 0, 6}, false, nil},
		{[]term{five, x}, facts.Row{5, 5}, true, way{5, 7}},
	} {
		w := way{none, 7}
		takeBack, fits := w.put(c.terms, c.row)
		if fits != c.fits || fits && !slices.Equal(w, c.then) {
			t.Errorf("put(%v, %v): %v, %v", c.terms, c.row, fits, w)
		}
		takeBack()
		if !slices.Equal(w, way{none, 7}) {
			t.Errorf("put(%v, %v), taken back: %v", c.terms, c.row, w)
		}
	}
}
