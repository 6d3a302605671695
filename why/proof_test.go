package why_test

import (
	"fmt"
	"strings"
	"testing"

	"deduce/api"
	"deduce/eval"
	"deduce/syntax"
)

func TestDocument(t *testing.T) {
	hold(t, []one{{"r(X,Y):-edge(X,Y). r(X,Z):-r(X,Y),edge(Y,Z).", "edge/2: a b; b c", "r a c", `
r(a, c) by rule 2
  r(a, b) by rule 1
    edge(a, b) given
  edge(b, c) given
`}})
}

// What is given, and what a rule tells of nothing.
func TestAlone(t *testing.T) {
	hold(t, []one{
		{"", "n/1: a", "n a", "\nn(a) given\n"},
		{"", "n/2: a b; b c", "n b c", "\nn(b, c) given\n"},
		{"", "t/0: ;", "t", "\nt given\n"},
		{"p(X) :- n(X).", "n/1: a | z/1: b", "z b", "\nz(b) given\n"},
		{"p(X) :- n(X).", "n/1: a | z/1: b", "n a", "\nn(a) given\n"},
		{"p(a).", "", "p a", "\np(a) by rule 1\n"},
		{"p(a). p(b).", "", "p b", "\np(b) by rule 2\n"},
		{"t.", "", "t", "\nt by rule 1\n"},
		{"p(a, b, c, d, e, f, g, h).", "", "p a b c d e f g h", "\np(a, b, c, d, e, f, g, h) by rule 1\n"},
		{"p(a) :- a = a.", "", "p a", "\np(a) by rule 1\n"},
		{"p(a) :- not q(b), a != b, a < b.", "", "p a", "\np(a) by rule 1\n"},
		// Given, and told by rules as well.
		{"p(a). p(X) :- n(X).", "p/1: a | n/1: a; b", "p a", "\np(a) given\n"},
		{"p(a). p(X) :- n(X).", "p/1: a | n/1: a; b", "p b", "\np(b) by rule 2\n  n(b) given\n"},
		{"p(X) :- p(X).", "p/1: a", "p a", "\np(a) given\n"},
		{"n(X) :- p(X). p(X) :- n(X).", "p/1: a", "n a", "\nn(a) by rule 1\n  p(a) given\n"},
		{"q(X) :- p(X). p(a). p(b).", "p/1: a", "q a", "\nq(a) by rule 1\n  p(a) given\n"},
	})
}

// The number is that of the rule among all rules.
func TestRuleNumbers(t *testing.T) {
	text := "a1. a2. p(X) :- q(X). a3. q(X) :- n(X). % one more\n a4 :- p(b), q(b), a1, a3."
	hold(t, []one{
		{text, "n/1: a; b", "a1", "\na1 by rule 1\n"},
		{text, "n/1: a; b", "a2", "\na2 by rule 2\n"},
		{text, "n/1: a; b", "a3", "\na3 by rule 4\n"},
		{text, "n/1: a; b", "p a", "\np(a) by rule 3\n  q(a) by rule 5\n    n(a) given\n"},
		{text, "n/1: a; b", "a4", `
a4 by rule 6
  p(b) by rule 3
    q(b) by rule 5
      n(b) given
  q(b) as above
  a1 by rule 1
  a3 by rule 4
`}})
	var rules strings.Builder
	for i := range 200 {
		fmt.Fprintf(&rules, "p%d :- p%d. ", i+1, i)
	}
	proof := proven(t, rules.String(), given("p0/0: ;"), "p200")
	if !strings.HasPrefix(proof, "p200 by rule 200\n  p199 by rule 199\n    p198 by rule 198\n") {
		t.Error(proof)
	}
	if !strings.HasSuffix(proof, "\n"+strings.Repeat(" ", 398)+"p1 by rule 1\n"+strings.Repeat(" ", 400)+"p0 given\n") {
		t.Error(proof)
	}
}

// A fact that stands twice in one proof: what is given is told so each time.
func TestAsAbove(t *testing.T) {
	hold(t, []one{
		{"p(X) :- q(X), q(X).", "q/1: a", "p a", "\np(a) by rule 1\n  q(a) given\n  q(a) given\n"},
		{"p(X) :- q(X), q(X). q(X) :- n(X).", "n/1: a", "p a", `
p(a) by rule 1
  q(a) by rule 2
    n(a) given
  q(a) as above
`},
		{"p :- q, q, q, r. q. r :- q, s. s :- r0, q. r0.", "", "p", `
p by rule 1
  q by rule 2
  q as above
  q as above
  r by rule 3
    q as above
    s by rule 4
      r0 by rule 5
      q as above
`},
		// The first line of a fact may be the deeper one.
		{"p :- r, q. r :- q, n. q :- n.", "n/0: ;", "p", `
p by rule 1
  r by rule 2
    q by rule 3
      n given
    n given
  q as above
`},
		// Facts of one name with other texts are others, and so are names with the
		// same texts.
		{"p :- q(a), q(b), r(a), q(a), r(a), r(b). q(X) :- n(X). r(X) :- n(X).", "n/1: a; b", "p", `
p by rule 1
  q(a) by rule 2
    n(a) given
  q(b) by rule 2
    n(b) given
  r(a) by rule 3
    n(a) given
  q(a) as above
  r(a) as above
  r(b) by rule 3
    n(b) given
`},
		// Of each proof anew.
		{"p :- q. q.", "", "q", "\nq by rule 2\n"},
	})
}

// A line is an atom as the rules' one form has it.
func TestConstants(t *testing.T) {
	texts := []string{"", " ", "a b", "A", "X", "not", "a", "a_b", "7", "007", "7a", "_", "é", "\xff\x00", "\"", "\\", "\n", "a\n\"b\"\\", "% no remark", ",", ")",
		strings.Repeat("7", 30), strings.Repeat("7", 31), strings.Repeat("a", 30), strings.Repeat("a", 31), strings.Repeat("\n", 200)}
	var rows [][]string
	for _, text := range texts {
		rows = append(rows, []string{text, "x"})
	}
	facts := []api.Relation{{Name: "n", Arity: 2, Rows: rows}}
	for _, text := range texts {
		quoted := syntax.Constant(text)
		want := "p(y, " + quoted + ") by rule 1\n  n(" + quoted + ", x) given\n"
		got := proven(t, "p(y, X) :- n(X, x).", facts, "p", "y", text)
		if got != want {
			t.Errorf("%q: %q, want %q", text, got, want)
		}
		// What stands in a line can be read again.
		line, _, _ := strings.Cut(got, " by rule")
		parts, errno, at := syntax.Query(line + ".")
		if errno != api.OK || at != 0 || len(parts) != 1 || parts[0].Atom.Args[1].Text != text {
			t.Errorf("%q: %q is read as %v, %d, %d", text, line, parts, errno, at)
		}
	}
	if got := proven(t, `p("a b", "not", 12, "1 2", "X", "").`, nil, "p", "a b", "not", "12", "1 2", "X", ""); got != `p("a b", "not", 12, "1 2", "X", "") by rule 1`+"\n" {
		t.Error(got)
	}
}

// Names without columns, beside others.
func TestNoColumns(t *testing.T) {
	hold(t, []one{{"t :- u, n(X). u :- v, w. w.", "v/0: ; | n/1: b; a", "t", `
t by rule 1
  u by rule 2
    v given
    w by rule 3
  n(a) given
`}})
}

// Several depths: what stands beneath a fact has two blanks more.
func TestDepths(t *testing.T) {
	hold(t, []one{
		{"a :- b, c, d. b :- e, f. c :- g. d. e :- h. f. g :- h, f.", "h/0: ;", "a", `
a by rule 1
  b by rule 2
    e by rule 5
      h given
    f by rule 6
  c by rule 3
    g by rule 7
      h given
      f as above
  d by rule 4
`},
		{"r(X,Y):-e(X,Y). r(X,Z):-r(X,Y),r(Y,Z).", "e/2: a b; b c; c d; d e", "r a e", `
r(a, e) by rule 2
  r(a, c) by rule 2
    r(a, b) by rule 1
      e(a, b) given
    r(b, c) by rule 1
      e(b, c) given
  r(c, e) by rule 2
    r(c, d) by rule 1
      e(c, d) given
    r(d, e) by rule 1
      e(d, e) given
`}})
}

// A proof has as many lines, one in the other, as there are rounds.
func TestDeep(t *testing.T) {
	e := api.Relation{Name: "e", Arity: 2}
	for i := range 2000 {
		e.Rows = append(e.Rows, []string{fmt.Sprint(i), fmt.Sprint(i + 1)})
	}
	lines := strings.Split(proven(t, "p(0). p(Y) :- e(X,Y), p(X).", []api.Relation{e}, "p", "2000"), "\n")
	if len(lines) != 4002 || lines[4001] != "" {
		t.Fatalf("%d lines", len(lines))
	}
	blanks := ""
	for i := range 2000 {
		n := 2000 - i
		for j, want := range []string{
			fmt.Sprintf("%sp(%d) by rule 2", blanks, n),
			fmt.Sprintf("%s  e(%d, %d) given", blanks, n-1, n),
		} {
			if lines[2*i+j] != want {
				t.Fatalf("line %d: %q, want %q", 2*i+j, lines[2*i+j], want)
			}
		}
		blanks += "  "
	}
	if want := blanks + "p(0) by rule 1"; lines[4000] != want {
		t.Errorf("%q, want %q", lines[4000], want)
	}
}

// What is handed in stays as it is, and an answer hangs on nothing else.
func TestHandedIn(t *testing.T) {
	text := "p(X) :- q(X,Y), n(Y). q(X,Y) :- n(X), n(Y), not e(X,Y)."
	facts := given("n/1: c; a; b; a | e/2: b a; a a; b a | z/1: y; x")
	row := []string{"a"}
	before := fmt.Sprintf("%#v %q", facts, row)
	want := "p(a) by rule 1\n  q(a, b) by rule 2\n    n(a) given\n    n(b) given\n  n(b) given\n"
	for range 20 {
		if got := proven(t, text, facts, "p", row...); got != want {
			t.Fatalf("%q", got)
		}
		if after := fmt.Sprintf("%#v %q", facts, row); after != before {
			t.Fatalf("%s, was %s", after, before)
		}
		eval.Model(text, facts, 100000)
	}
	for i, j := 0, len(facts)-1; i < j; i, j = i+1, j-1 {
		facts[i], facts[j] = facts[j], facts[i]
	}
	if got := proven(t, text, facts, "p", row...); got != want {
		t.Errorf("relations the other way round: %q", got)
	}
}
