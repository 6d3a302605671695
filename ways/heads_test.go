package ways_test

import (
	"slices"
	"strconv"
	"strings"
	"testing"

	"deduce/api"
	"deduce/facts"
	"deduce/syntax"
	"deduce/ways"
)

// world reads facts, each a name and its texts, with ',' between, into a store,
// where they are there from now on.
func world(text string) *facts.Store {
	s := facts.New()
	for _, fact := range strings.Split(text, ",") {
		if words := strings.Fields(fact); len(words) > 0 {
			s.Give(api.Relation{Name: words[0], Arity: len(words) - 1, Rows: [][]string{words[1:]}})
		}
	}
	for _, r := range s.Relations() {
		s.Relation(r.Name, r.Arity).Turn()
	}
	return s
}

func parsed(t *testing.T, text string) api.Rule {
	t.Helper()
	rules, errno, at := syntax.Parse(text)
	if errno != api.OK || len(rules) != 1 {
		t.Fatalf("%q: %d %d", text, errno, at)
	}
	return rules[0]
}

func all(_ int, r *facts.Relation) facts.Span { return r.All() }

// heads writes the rows that are handed out until most are new, each once, rising.
func heads(s *facts.Store, rule api.Rule, first, most int, look ways.Look) string {
	told := map[facts.Row]struct{}{}
	known := func(row facts.Row) bool {
		_, is := told[row]
		return is
	}
	var list []string
	for row := range ways.New(rule, s, first).Heads(look, known) {
		told[row] = struct{}{}
		var texts []string
		for i := range rule.Head.Args {
			texts = append(texts, s.Text(row[i]))
		}
		list = append(list, "("+strings.Join(texts, " ")+")")
		if len(told) == most {
			break
		}
	}
	slices.Sort(list)
	return strings.Join(slices.Compact(list), "")
}

const some = "e a b, e b c, e c a, e c c, n a, n b, n c, n d, t, three a b c, three a a b, three c c c"

// Whatever is looked at first, the same heads are found.
func TestHeads(t *testing.T) {
	for _, c := range []struct{ rule, want string }{
		// No body, and no variables.
		{"p.", "()"},
		{"p(a, z, a).", "(a z a)"},
		{"p :- t.", "()"},
		{"p :- u.", ""},
		{"p(x) :- n(a), n(b).", "(x)"},
		{"p(x) :- n(a), n(x).", ""},
		// Atoms.
		{"p(X) :- n(X).", "(a)(b)(c)(d)"},
		{"p(X, X, b) :- n(X).", "(a a b)(b b b)(c c b)(d d b)"},
		{"p(X, Y) :- e(X, Y).", "(a b)(b c)(c a)(c c)"},
		{"p(Y, X) :- e(X, Y).", "(a c)(b a)(c b)(c c)"},
		{"p(X) :- e(X, c).", "(b)(c)"},
		{"p(X) :- e(X, \"X\").", ""},
		{"p(X, Z) :- e(X, Y), e(Y, Z).", "(a c)(b a)(b c)(c a)(c b)(c c)"},
		{"p(X) :- e(X, Y), e(Y, Z), e(Z, X).", "(a)(b)(c)"},
		{"p(X) :- n(X), n(Y), t.", "(a)(b)(c)(d)"},
		{"p(X) :- n(X), n(Y), u.", ""},
		{"p(X, Y) :- n(X), e(Y, Y).", "(a c)(b c)(c c)(d c)"},
		// A variable twice in one atom.
		{"p(X) :- e(X, X).", "(c)"},
		{"p(X, Y) :- three(X, X, Y).", "(a b)(c c)"},
		{"p(X) :- three(X, X, X).", "(c)"},
		{"p(X) :- three(X, a, Y), e(X, Y).", "(a)"},
		// 'not'.
		{"p(X) :- n(X), not e(X, X).", "(a)(b)(d)"},
		{"p(X) :- not e(X, b), n(X).", "(b)(c)(d)"},
		{"p(X, Y) :- e(X, Y), not e(Y, X).", "(a b)(b c)(c a)"},
		{"p(X) :- not u, n(X), not v(X).", "(a)(b)(c)(d)"},
		{"p(X) :- not t, n(X).", ""},
		{"p(X) :- n(X), not e(c, X), not e(\"X\", X).", "(b)(d)"},
		// Comparisons: variables and constants on either side.
		{"p(X) :- n(X), X = b.", "(b)"},
		{"p(X) :- n(X), b = X.", "(b)"},
		{"p(X) :- n(X), X = z.", ""},
		{"p(X) :- X = X, n(X).", "(a)(b)(c)(d)"},
		{"p(X, Y) :- X = Y, n(X), n(Y).", "(a a)(b b)(c c)(d d)"},
		{"p(X, Z) :- n(X), n(Y), n(Z), X = Y, Y = Z, Z != d.", "(a a)(b b)(c c)"},
		{"p(X) :- n(X), X != b.", "(a)(c)(d)"},
		{"p(X) :- n(X), b != X.", "(a)(c)(d)"},
		{"p(X) :- n(X), X != X.", ""},
		{"p(X) :- n(X), X < c.", "(a)(b)"},
		{"p(X) :- n(X), b < X.", "(c)(d)"},
		{"p(X) :- n(X), X < X.", ""},
		{"p(X, Y) :- n(X), X < Y, n(Y), Y < d.", "(a b)(a c)(b c)"},
		{"p(X) :- n(X), a = a, a != b, a < b.", "(a)(b)(c)(d)"},
		{"p(X) :- n(X), a = b.", ""},
		{"p(X) :- n(X), a != a.", ""},
		{"p(X) :- n(X), b < a.", ""},
		{"p(X) :- n(X), a < a.", ""},
		{"p :- a = a.", "()"},
		{"p :- a = b.", ""},
		{"p(X) :- X = a, Y = X, e(Y, Z), n(X).", "(a)"},
	} {
		rule := parsed(t, c.rule)
		for first := -1; first <= len(rule.Body); first++ {
			if first >= 0 && first < len(rule.Body) && rule.Body[first].Kind != 0 {
				continue
			}
			if got := heads(world(some), rule, first, -1, all); got != c.want {
				t.Errorf("%s, %d first: %q, want %q", c.rule, first, got, c.want)
			}
		}
	}
}

// Bytes are what is compared, not numbers or letters.
func TestLess(t *testing.T) {
	s := facts.New()
	s.Give(api.Relation{Name: "n", Arity: 1, Rows: [][]string{{"b"}, {"10"}, {"é"}, {"9"}, {""}, {"B"}, {"ba"}, {"\xff"}}})
	s.Relation("n", 1).Turn()
	for text, want := range map[string]string{
		"":     "",
		"10":   "()",
		"9":    "()(10)",
		"b":    "()(10)(9)(B)",
		"ba":   "()(10)(9)(B)(b)",
		"é":    "()(10)(9)(B)(b)(ba)",
		"\xff": "()(10)(9)(B)(b)(ba)(é)",
	} {
		rule := parsed(t, "p(X) :- n(X), X < \""+text+"\".")
		if got := heads(s, rule, -1, -1, all); got != want {
			t.Errorf("less than %q: %q, want %q", text, got, want)
		}
	}
}

// A loop may be left at each head, and tells no head that is known.
func TestHeadsLeftEarly(t *testing.T) {
	rule := parsed(t, "p(X, Z) :- e(X, Y), e(Y, Z), n(U).")
	whole := heads(world(some), rule, -1, -1, all)
	for most := 1; most <= 6; most++ {
		got := heads(world(some), rule, -1, most, all)
		if strings.Count(got, "(") != most {
			t.Errorf("the first %d: %q", most, got)
		}
		for _, head := range strings.SplitAfter(got, ")") {
			if !strings.Contains(whole, head) {
				t.Errorf("%s is none of %s", head, whole)
			}
		}
	}
	everything := func(facts.Row) bool { return true }
	for range ways.New(rule, world(some), -1).Heads(all, everything) {
		t.Error("a head that is known")
	}
}

// A known head is not looked for: each is handed out once, as it is made known.
func TestHeadsOnce(t *testing.T) {
	s := world(some)
	rule := parsed(t, "p(X) :- n(X), n(Y), n(Z), e(U, V).")
	told := map[facts.Row]int{}
	known := func(row facts.Row) bool { return told[row] > 0 }
	for row := range ways.New(rule, s, -1).Heads(all, known) {
		told[row]++
	}
	if len(told) != 4 {
		t.Errorf("%d heads", len(told))
	}
	for row, times := range told {
		if times != 1 {
			t.Errorf("%v: %d times", row, times)
		}
	}
}

// Each atom is looked for where its place in the body says.
func TestLook(t *testing.T) {
	s := world("e a b, e b c")
	e := s.Relation("e", 2)
	for _, row := range []string{"c d", "d a"} {
		words := strings.Fields(row)
		e.Add(facts.Row{s.Number(words[0]), s.Number(words[1])}, 1)
	}
	e.Turn()
	rule := parsed(t, "p(X, Y, Z) :- X != Y, e(X, Y), e(Y, Z).")
	for _, c := range []struct{ one, other, want string }{
		{"all", "all", "(a b c)(b c d)(c d a)(d a b)"},
		{"old", "old", "(a b c)"},
		{"new", "new", "(c d a)"},
		{"old", "new", "(b c d)"},
		{"new", "old", "(d a b)"},
		{"new", "all", "(c d a)(d a b)"},
		{"all", "old", "(a b c)(d a b)"},
	} {
		look := func(place int, r *facts.Relation) facts.Span {
			which := c.one
			if place == 2 {
				which = c.other
			}
			switch which {
			case "old":
				return r.Old()
			case "new":
				return r.New()
			}
			return r.All()
		}
		for _, first := range []int{-1, 1, 2} {
			if got := heads(s, rule, first, -1, look); got != c.want {
				t.Errorf("%s and %s, %d first: %q, want %q", c.one, c.other, first, got, c.want)
			}
		}
	}
}

// What a search keeps in mind has a bound: beyond it the answer is the same.
func TestMoreThanIsKeptInMind(t *testing.T) {
	s := facts.New()
	a, b := api.Relation{Name: "a", Arity: 2}, api.Relation{Name: "b", Arity: 2}
	for i := range 1200 {
		n := strconv.Itoa(i / 2)
		a.Rows = append(a.Rows, []string{"5" + n, strconv.Itoa(i % 2)})
		b.Rows = append(b.Rows, []string{"x" + n, strconv.Itoa(i % 2)})
	}
	a.Rows = append(a.Rows, []string{"9", "0"})
	b.Rows = append(b.Rows, []string{"8", "0"})
	s.Give(a)
	s.Give(b)
	s.Relation("a", 2).Turn()
	s.Relation("b", 2).Turn()
	// Of 361201 pairs of texts the last one alone will do.
	for text, want := range map[string]string{
		"p :- a(X,U), b(Y,V), Y < X.":                   "()",
		"p(X) :- a(X,U), b(Y,V), Y < X.":                "(9)",
		"p(Y) :- a(X,U), b(Y,V), Y < X.":                "(8)",
		"p :- a(X,U), b(Y,V), Y < X, X != \"9\".":       "",
		"p(X, Y) :- b(Y,V), a(X,U), Y < X, X != \"8\".": "(9 8)",
	} {
		if got := heads(s, parsed(t, text), -1, -1, all); got != want {
			t.Errorf("%s: %q, want %q", text, got, want)
		}
	}
}

// More variables than a row has columns may be asked for at once.
func TestManyVariables(t *testing.T) {
	s := world("w a b c d e f g h, w a 1 2 3 4 5 6 7, w a 1 2 3 4 5 6 8, z q, z r, u a b c d e f g q")
	rule := parsed(t, "p(A,H,N,Q) :- w(A,B,C,D,E,F,G,H), w(A,I,J,K,L,M,N,O), z(Q), not u(A,B,C,D,E,F,G,Q), not u(H,I,J,K,L,M,N,Q).")
	want := "(a 7 6 q)(a 7 6 r)(a 7 g q)(a 7 g r)(a 8 6 q)(a 8 6 r)(a 8 g q)(a 8 g r)(a h 6 r)(a h g r)"
	for _, first := range []int{-1, 0, 1, 2} {
		if got := heads(s, rule, first, -1, all); got != want {
			t.Errorf("%d first: %q, want %q", first, got, want)
		}
	}
}

// Twelve parts of which each has many rows: what was looked through is not looked
// through again.
func TestManyWays(t *testing.T) {
	s := facts.New()
	r := api.Relation{Name: "e", Arity: 2}
	for i := range 900 {
		r.Rows = append(r.Rows, []string{strconv.Itoa(i / 30), strconv.Itoa(i % 30)})
	}
	s.Give(r)
	s.Relation("e", 2).Turn()
	chain := "e(A,B),e(B,C),e(C,D),e(D,E),e(E,F),e(F,G),e(G,H),e(H,I),e(I,J),e(J,K),e(K,L)"
	for text, want := range map[string]int{
		"p(A,L) :- " + chain + ".":     900,
		"p(A,K) :- " + chain + ",L<A.": 29 * 30,
		"p(F) :- " + chain + ".":       30,
		"p :- " + chain + ",f(L).":     0,
		"p :- " + chain + ",L=x.":      0,
		"p(A) :- e(A,B),e(A,C),e(A,D),e(A,E),e(A,F),e(A,G),e(A,H),e(A,I),e(A,J),f(A,L).": 0,
	} {
		got := heads(s, parsed(t, text), -1, -1, all)
		if n := strings.Count(got, "("); n != want {
			t.Errorf("%s: %d heads, want %d", text, n, want)
		}
	}
}
