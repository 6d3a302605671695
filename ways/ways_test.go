package ways_test

import (
	"slices"
	"strings"
	"testing"

	"deduce/api"
	"deduce/facts"
	"deduce/ways"
)

// each writes the ways that are handed out until there are most, as they come.
func each(s *facts.Store, rule api.Rule, most int, look ways.Look) []string {
	var list []string
	for way := range ways.New(rule, s, ways.Nowhere).Ways(look) {
		list = append(list, "("+strings.Join(s.TextsOf(way), " ")+")")
		if len(list) == most {
			break
		}
	}
	return list
}

// Every way is handed out, and just once, with the variables as they first stand in
// the body.
func TestWays(t *testing.T) {
	for _, c := range []struct{ rule, want string }{
		{"p.", "()"},
		{"p :- t.", "()"},
		{"p :- u.", ""},
		{"p :- not u, a < b.", "()"},
		{"p :- n(X).", "(a)(b)(c)(d)"},
		{"p(X) :- n(X).", "(a)(b)(c)(d)"},
		{"p :- e(Y, X).", "(a b)(b c)(c a)(c c)"},
		{"p :- X != Y, e(Y, X).", "(a c)(b a)(c b)"},
		{"p :- not e(Y, X), n(X), e(X, Y).", "(a c)(b a)(c b)"},
		{"p(Z) :- e(X, Y), e(Y, Z).", "(a b c)(b c a)(b c c)(c a b)(c c a)(c c c)"},
		{"p :- e(X, Y), e(Y, Z).", "(a b c)(b c a)(b c c)(c a b)(c c a)(c c c)"},
		{"p :- e(X, X).", "(c)"},
		{"p :- n(X), e(Y, Z), Y = c, X < b.", "(a c a)(a c c)"},
		{"p(X) :- n(X), n(Y), X < b, Y < c.", "(a a)(a b)"},
		// What leads nowhere, behind what is forgotten.
		{"p :- e(X, Y), e(Y, Z), e(Z, W), e(W, V), f(V).", ""},
		{"p :- e(X, Y), e(Y, Z), e(Z, W), W = b.", "(b c a b)(c c a b)"},
		{"p :- n(V), e(X, Y), e(Y, Z), e(Z, W), W = b, V = Z.", "(a b c a b)(a c c a b)"},
	} {
		rule := parsed(t, c.rule)
		s := world(some)
		list := each(s, rule, -1, all)
		slices.Sort(list)
		if got := strings.Join(list, ""); got != c.want {
			t.Errorf("%s: %q, want %q", c.rule, got, c.want)
		}
		// A loop may be left at each.
		for most := 1; most <= len(list); most++ {
			some := each(s, rule, most, all)
			if len(some) != most || slices.ContainsFunc(some, func(way string) bool { return !slices.Contains(list, way) }) {
				t.Errorf("%s: the first %d: %q", c.rule, most, some)
			}
		}
	}
}

// grown has e a b and b c of round 0, c d of round 1, d a and d e of round 3.
func grown() (*facts.Store, *facts.Relation) {
	s := world("e a b, e b c")
	e := s.Relation("e", 2)
	for _, c := range []struct {
		one, other string
		round      int
	}{{"c", "d", 1}, {"d", "a", 3}, {"d", "e", 3}} {
		e.Add(facts.Row{s.Number(c.one), s.Number(c.other)}, c.round)
		e.Turn()
	}
	return s, e
}

// Each atom is looked for where its place in the body says.
func TestWaysLook(t *testing.T) {
	s, e := grown()
	rule := parsed(t, "p :- X != Y, e(X, Y), e(Y, Z).")
	for _, c := range []struct {
		one, other int
		want       string
	}{
		{4, 4, "(a b c)(b c d)(c d a)(c d e)(d a b)"},
		{3, 3, "(a b c)(b c d)"},
		{1, 1, "(a b c)"},
		{0, 4, ""},
		{4, 0, ""},
		{2, 4, "(a b c)(b c d)(c d a)(c d e)"},
		{4, 2, "(a b c)(b c d)(d a b)"},
		{1, 2, "(a b c)(b c d)"},
	} {
		look := func(place int, _ *facts.Relation) facts.Span {
			return e.Before(map[int]int{1: c.one, 2: c.other}[place])
		}
		list := each(s, rule, -1, look)
		slices.Sort(list)
		if got := strings.Join(list, ""); got != c.want {
			t.Errorf("%d and %d: %q, want %q", c.one, c.other, got, c.want)
		}
	}
}

// least writes the rows of the parts on the least way in which the head is that.
func least(s *facts.Store, choice *ways.Choice, rule api.Rule, head string, look ways.Look) string {
	var row facts.Row
	for i, text := range strings.Fields(head) {
		row[i] = s.Number(text)
	}
	rows, is := choice.Least(row, look)
	if !is {
		return "none"
	}
	var list []string
	for place, part := range rule.Body {
		width := 2
		if part.Kind < 2 {
			width = len(part.Atom.Args)
		}
		list = append(list, strings.Join(s.TextsOf(rows[place][:width]), " "))
	}
	return strings.Join(list, ", ")
}

func TestLeast(t *testing.T) {
	for _, c := range []struct{ rule, head, want string }{
		{"p.", "", ""},
		{"p(a).", "a", ""},
		{"p(a).", "b", "none"},
		{"p :- t.", "", ""},
		{"p :- u.", "", "none"},
		{"p(X, X) :- n(X).", "b b", "b"},
		{"p(X, X) :- n(X).", "b c", "none"},
		{"p(X, c) :- n(X).", "b c", "b"},
		{"p(X, c) :- n(X).", "b b", "none"},
		{"p(X) :- n(X).", "z", "none"},
		{"p :- n(X).", "", "a"},
		{"p(X) :- e(X, Y).", "c", "c a"},
		{"p(Y) :- e(X, Y).", "c", "b c"},
		{"p(Y) :- n(Z), e(X, Y), Z = X.", "c", "b, b c, b b"},
		{"p(Z) :- e(X, Y), e(Y, Z).", "c", "a b, b c"},
		{"p(X) :- e(X, Y), e(Y, Z).", "b", "b c, c a"},
		{"p :- Y != X, e(X, Y).", "", "a c, c a"},
		{"p :- not e(Y, X), e(X, Y).", "", "a c, c a"},
		{"p :- e(X, Y), e(Y, Z), e(Z, X), X = Y.", "", "c c, c c, c c, c c"},
		{"p :- n(X), n(Y), n(Z), X != Y, Y != Z, X != Z.", "", "a, b, c, a b, b c, a c"},
		{"p :- n(X), n(Y), b < Y, Y != X, c < X.", "", "d, c, b c, c d, c d"},
		{"p(A) :- three(A, B, C), three(B, D, E).", "a", "a a b, a a b"},
		{"p(C) :- three(A, B, C), three(B, D, E).", "c", "c c c, c c c"},
	} {
		s := world(some)
		rule := parsed(t, c.rule)
		choice := ways.NewChoice(rule, s)
		for range 2 {
			if got := least(s, choice, rule, c.head, all); got != c.want {
				t.Errorf("%s of %q: %q, want %q", c.rule, c.head, got, c.want)
			}
		}
	}
}

// Texts are compared, not their numbers, nor the order in which rows came.
func TestLeastText(t *testing.T) {
	s := facts.New()
	s.Give(api.Relation{Name: "n", Arity: 1, Rows: [][]string{{"b"}, {"10"}, {"9"}, {"é"}, {"B"}}})
	s.Relation("n", 1).Turn()
	for text, want := range map[string]string{
		"p :- n(X).":                            "10",
		"p :- n(X), \"10\" < X.":                "9, 10 9",
		"p :- n(X), \"9\" < X.":                 "B, 9 B",
		"p :- n(X), b < X.":                     "é, b é",
		"p :- n(X), n(Y), X != Y, X != \"10\".": "9, 10, 9 10, 9 10",
	} {
		rule := parsed(t, text)
		if got := least(s, ways.NewChoice(rule, s), rule, "", all); got != want {
			t.Errorf("%s: %q, want %q", text, got, want)
		}
	}
}

// One choice, of other heads and where other rows are looked at.
func TestLeastLook(t *testing.T) {
	s, e := grown()
	rule := parsed(t, "p(X) :- e(X, Y), e(Z, X).")
	choice := ways.NewChoice(rule, s)
	for _, c := range []struct {
		head   string
		before int
		want   string
	}{
		{"a", 4, "a b, d a"}, {"a", 3, "none"}, {"b", 1, "b c, a b"}, {"b", 0, "none"}, {"c", 2, "c d, b c"}, {"c", 1, "none"},
		{"d", 4, "d a, c d"}, {"d", 3, "none"}, {"e", 4, "none"}, {"a", 4, "a b, d a"},
	} {
		look := func(int, *facts.Relation) facts.Span { return e.Before(c.before) }
		if got := least(s, choice, rule, c.head, look); got != c.want {
			t.Errorf("%s before %d: %q, want %q", c.head, c.before, got, c.want)
		}
	}
}

// The least of very many ways.
func TestLeastOfMany(t *testing.T) {
	s := facts.New()
	r := api.Relation{Name: "e", Arity: 2}
	for i := range 900 {
		r.Rows = append(r.Rows, []string{string(rune('a' + 29 - i/30)), string(rune('a' + i%30))})
	}
	s.Give(r)
	s.Relation("e", 2).Turn()
	rule := parsed(t, "p(A,L) :- e(A,B),e(B,C),e(C,D),e(D,E),e(E,F),e(F,G),e(G,H),e(H,I),e(I,J),e(J,K),e(K,L),A<K.")
	want := "c a, a a, a a, a a, a a, a a, a a, a a, a a, a d, d b, c d"
	if got := least(s, ways.NewChoice(rule, s), rule, "c b", all); got != want {
		t.Errorf("%q, want %q", got, want)
	}
}
