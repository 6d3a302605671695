package deduce_test

import (
	"strings"
	"testing"

	"deduce/api"
	"deduce/deduce"
	"deduce/syntax"
)

// asked is a case of Explain: a program, what the files are, a fact and its proof,
// with a newline ahead.
type asked struct{ program, files, fact, want string }

func holdProofs(t *testing.T, cases []asked) {
	t.Helper()
	for _, c := range cases {
		proof, errno, at := deduce.Explain(c.program, files(t, c.files), c.fact)
		if "\n"+proof != c.want || errno != api.OK || at != 0 {
			t.Errorf("Explain(%q, %q, %q):\n%s%d %d, want:%s", c.program, c.files, c.fact, proof, errno, at, c.want)
		}
	}
}

func TestExplain(t *testing.T) {
	known := "x/1: a | n/1: c; a | e/2: c d; b c; a b"
	holdProofs(t, []asked{
		{reach, known, "e(a, b).", `
e(a, b) given
`},
		{reach, known, "r(a, b).", `
r(a, b) by rule 1
  e(a, b) given
`},
		{reach, known, "r(a, d).", `
r(a, d) by rule 2
  r(a, c) by rule 2
    r(a, b) by rule 1
      e(a, b) given
    e(b, c) given
  e(c, d) given
`},
		{reach, known, "off(c).", `
off(c) by rule 3
  n(c) given
`},
		// Of a name that is not in the program.
		{reach, known, "x(a).", `
x(a) given
`},
		{"", known, "n(c).", `
n(c) given
`},
		// Without files.
		{"p(a). q(X) :- p(X), p(a).", "", "q(a).", `
q(a) by rule 2
  p(a) by rule 1
  p(a) as above
`},
		// Given, and told by a rule as well.
		{"p(X) :- n(X).", "p/1: a | n/1: a", "p(a).", `
p(a) given
`},
	})
}

func TestFactsAsTheyAreWritten(t *testing.T) {
	holdProofs(t, []asked{
		// Constants in quotes, which need them or do not; digits.
		{"p(\"a b\", \"\", \"\\\"\\\\\\n\", \"X\", 12).", "", "p(\"a b\", \"\", \"\\\"\\\\\\n\", \"X\", \"12\").", "\np(\"a b\", \"\", \"\\\"\\\\\\n\", \"X\", 12) by rule 1\n"},
		{"p(\"not\").", "", "p(\"not\").", "\np(\"not\") by rule 1\n"},
		{"", "n/1: a", "n(\"a\").", "\nn(a) given\n"},
		{"", "n/1: 007", "n(007).", "\nn(007) given\n"},
		// Without terms.
		{"t :- e(X, Y).", "e/2: b a", "t.", "\nt by rule 1\n  e(b, a) given\n"},
		{"", "t/0: ;", "t.", "\nt given\n"},
		// Blanks and remarks.
		{reach, "n/1: a", " % why?\n n\t(\n a ) . % so", "\nn(a) given\n"},
	})
	long := strings.Repeat("x", 200)
	if proof, errno, at := deduce.Explain("p(\""+long+"\").", nil, "p(\""+long+"\")."); proof != "p(\""+long+"\") by rule 1\n" || errno != api.OK || at != 0 {
		t.Errorf("%q %d %d", proof, errno, at)
	}
}

// The errors of Query have their places, raised.
func TestQueryErrors(t *testing.T) {
	known := files(t, "e/2: a b | n/1: a")
	for _, fact := range []string{
		"", " ", "% n(a).", "n(a)", "n(a).n", "n(a). .", ".", "N(a).", "n(a,).", "n().", "n(a", "n(\"a).", "not.", "not not n(a).",
		"n(a) :- e(a, b).", "n(a),", "n(a), .", "n (a) e.", "n(!).", "a = .", "n(\"\\t\").", "\xff", "n(\x00).",
		"  n(\"" + strings.Repeat("x", 201) + "\").",
		"n(" + strings.Repeat("a,", 8) + "a).",
		strings.Repeat("n(a),", 12) + "n(a).",
		strings.Repeat(" ", 20001),
		"n(a)." + strings.Repeat(" ", 19996),
	} {
		_, errno, at := syntax.Query(fact)
		if errno == api.OK {
			t.Fatalf("%q has no error", fact)
		}
		wrongExplain(t, reach, known, fact, errno, 1000000+at)
		wrongExplain(t, "", nil, fact, errno, 1000000+at)
		// Ahead of those of relations.
		wrongExplain(t, reach, append(known, known[0]), fact, errno, 1000000+at)
	}
	for _, c := range []struct {
		fact  string
		errno api.Errno
		at    int
	}{
		{"", api.ErrText, 1000000},
		{"r(a,c)", api.ErrText, 1000006},
		{"n(a,b,c,d,e,f,g,h,i).", api.ErrMany, 1000018},
		{" n(\"" + strings.Repeat("x", 201) + "\").", api.ErrLong, 1000003},
		{strings.Repeat("n,", 12) + "n.", api.ErrMany, 1000024},
		{strings.Repeat(" ", 20001), api.ErrLong, 1000000},
	} {
		wrongExplain(t, reach, known, c.fact, c.errno, c.at)
	}
	// As long as a text may be.
	if proof, errno, at := deduce.Explain(reach, known, "n(a)."+strings.Repeat(" ", 19995)); proof != "n(a) given\n" || errno != api.OK || at != 0 {
		t.Errorf("%q %d %d", proof, errno, at)
	}
}

// What can be read, and is yet no fact.
func TestNoFact(t *testing.T) {
	known := files(t, "e/2: a b | n/1: a | t/0: ;")
	for _, fact := range []string{
		"n(a), n(a).", "t, t.", "n(a), t, e(a, b).", "n(a), a = a.", "a = a, n(a).", "n(a), not n(b).", "not n(b), n(a).",
		"not n(a).", "not n(b).", "not t.", "not x.",
		"a = a.", "a != b.", "a < b.", "\"n\" = \"n\".", "X = a.", "X < Y.",
		"n(X).", "e(a, X).", "e(X, b).", "e(X, X).", "x(X).", "  n(  X).", "not n(X).", "n(a), n(X).",
	} {
		if _, errno, _ := syntax.Query(fact); errno != api.OK {
			t.Fatalf("%q: %d", fact, errno)
		}
		wrongExplain(t, reach, known, fact, api.ErrText, 1000000)
		// Ahead of what Why tells.
		wrongExplain(t, reach, append(known, known[0]), fact, api.ErrText, 1000000)
		wrongExplain(t, "", nil, fact, api.ErrText, 1000000)
	}
}

// A fact that does not hold.
func TestNone(t *testing.T) {
	known := files(t, "e/2: a b; b c | n/1: a | t/0: ; | u/0")
	for _, fact := range []string{
		"n(b).", "e(b, a).", "r(c, a).", "on(a).", "off(b).", "u.", "x.", "x(a).", "n(\"\").", "n(\"a \").",
		// Another number of terms than the name's.
		"n.", "n(a, b).", "e(a).", "t(a).", "r(a, b, c).", "r.",
		"n(\"X\").",
	} {
		wrongExplain(t, reach, known, fact, api.ErrNone, 0)
	}
}

// Why's other error: a model that is too great.
func TestModelTooGreat(t *testing.T) {
	known := packed(t, api.Relation{Name: "n", Arity: 1, Rows: many(317)})
	// 317 and 317 times 317 facts are more than 100000.
	wrongExplain(t, "p(X,Y) :- n(X), n(Y).", known, "p(1, 1).", api.ErrMany, 0)
	wrongExplain(t, "p(X,Y) :- n(X), n(Y).", known, "n(1).", api.ErrMany, 0)
	wrongRun(t, "p(X,Y) :- n(X), n(Y).", known, most, api.ErrMany, 0)
}
