package deduce_test

import (
	"slices"
	"strconv"
	"strings"
	"testing"

	"deduce/api"
	"deduce/deduce"
	"deduce/file"
)

// one is a case of Run: a program, what the files are, and what the answer is.
type one struct{ program, files, want string }

func hold(t *testing.T, cases []one) {
	t.Helper()
	for _, c := range cases {
		if got := told(t, run(t, c.program, files(t, c.files))); got != c.want {
			t.Errorf("Run(%q, %q):\n%s, want\n%s", c.program, c.files, got, c.want)
		}
	}
}

func TestRun(t *testing.T) {
	hold(t, []one{
		{"r(X,Y):-edge(X,Y). r(X,Z):-r(X,Y),edge(Y,Z).", "edge/2: a b; b c", "r/2 a,b; a,c; b,c;"},
		{reach, "e/2: a b; b c; c b; d a | n/1: a; b; c; d; x", "off/1 a; d; x;|on/1 b; c;|r/2 a,b; a,c; b,b; b,c; c,b; c,c; d,a; d,b; d,c;"},
		{"p(X) :- n(X), X != a, X < c.", "n/1: a; b; c", "p/1 b;"},
		{"p(a). p(\"x y\"). q(X) :- p(X), X = \"x y\".", "", "p/1 a; x y;|q/1 x y;"},
		{"p(X, X, k) :- n(X).", "n/1: b; a", "p/3 a,a,k; b,b,k;"},
		{"p(\"\", \"\\n\\\"\\\\\").", "", "p/2 ,\n\"\\;"},
		{"p(A,B,C,D,E,F,G,H) :- w(H,G,F,E,D,C,B,A).", "w/8: a b c d e f g h", "p/8 h,g,f,e,d,c,b,a;"},
	})
}

// Of the names those of heads alone, rising, each once.
func TestWhichFiles(t *testing.T) {
	hold(t, []one{
		// By the bytes, whatever the order of the rules.
		{"z. a. p_. p1. pZ. p. p10. pa.", "", "a/0 ;|p/0 ;|p1/0 ;|p10/0 ;|pZ/0 ;|p_/0 ;|pa/0 ;|z/0 ;"},
		// Two rules with one head, and one between.
		{"p(a). q(c). p(b). q(a). p(a).", "", "p/1 a; b;|q/1 a; c;"},
		// Nothing follows: nothing given, or something that does not do.
		{"p(X) :- q(X). s(X,Y) :- q(X), q(Y). t :- not u. u :- not v. v :- q(a).", "", "p/1|s/2|t/0|u/0 ;|v/0"},
		{"p(X) :- n(X), not n(X). q(X) :- n(X), X < X.", "n/1: a; b", "p/1|q/1"},
		// No columns.
		{"t :- e(a,X). u :- e(X,a). v.", "e/2: a b", "t/0 ;|u/0|v/0 ;"},
		{"t :- s. u :- not s.", "s/0: ;", "t/0 ;|u/0"},
		{"t :- s. u :- not s.", "s/0", "t/0|u/0 ;"},
		// Given by a file as well: what it has stays, whether or not a rule tells it.
		{"e(X,Y) :- e(Y,X).", "e/2: a b; c c", "e/2 a,b; b,a; c,c;"},
		{"p(X) :- n(X).", "p/1: x; a | n/1: a; b", "p/1 a; b; x;"},
		{"p(X) :- n(X).", "p/1: x", "p/1 x;"},
		{"p(a).", "p/1", "p/1 a;"},
		{"t :- n(a).", "t/0: ; | n/1: b", "t/0 ;"},
		// Names of a body, behind 'not', or of a file alone are none of a head; nor
		// is a constant.
		{"p(n) :- n(q), not m(m).", "n/1: q | q/1: a | x/2: a b | m/1", "p/1 n;"},
		// One form of a name is another name.
		{"pp(X) :- p(X).", "p/1: a | ppp/1: b", "pp/1 a;"},
	})
}

func TestNoRulesOrNoFiles(t *testing.T) {
	hold(t, []one{
		{"", "", ""},
		{"", "e/2: a b | n/1: a", ""},
		{" % p(a).\n", "p/1: a", ""},
		{"p(a). q(X) :- p(X).", "", "p/1 a;|q/1 a;"},
		{reach, "", "off/1|on/1|r/2"},
	})
	for _, none := range [][]string{nil, {}} {
		answer, errno, at := deduce.Run("", none, 0)
		if len(answer) != 0 || errno != api.OK || at != 0 {
			t.Errorf("%q %d %d", answer, errno, at)
		}
	}
}

// The answer has the very bytes of a relation's file.
func TestBytes(t *testing.T) {
	answer := run(t, reach, files(t, "n/1: a; b | e/2: a b; b a; b c"))
	want := files(t, "off/1 | on/1: b; a | r/2: b c; a a; a b; b a; b b; a c")
	if !slices.Equal(answer, want) {
		t.Errorf("%q, want %q", answer, want)
	}
}

// A file holds 2000 rows, and the greatest model 100000 facts.
func TestLarge(t *testing.T) {
	var known []string
	var program strings.Builder
	for i := range 49 {
		name := "r" + strconv.Itoa(i)
		known = append(known, packed(t, api.Relation{Name: name, Arity: 1, Rows: many(2000)})...)
		program.WriteString("p(X) :- " + name + "(X). ")
	}
	// 49 relations and p: 100000 facts.
	answer := run(t, program.String(), known)
	if want := packed(t, api.Relation{Name: "p", Arity: 1, Rows: many(2000)}); !slices.Equal(answer, want) {
		t.Errorf("%d files", len(answer))
	}
	wrongRun(t, program.String(), known, most-1, api.ErrMany, 0)
	wrongRun(t, program.String()+"q.", known, most, api.ErrMany, 0)
	wrongExplain(t, program.String()+"q.", known, "q.", api.ErrMany, 0)
	if proof, errno, at := deduce.Explain(program.String(), known, "p(1999)."); proof != "p(1999) by rule 1\n  r0(1999) given\n" || errno != api.OK || at != 0 {
		t.Errorf("%q %d %d", proof, errno, at)
	}
}

// As many bytes as a file may have, and one more.
func TestFullFile(t *testing.T) {
	full := fullRelation(t)
	half := len(full.Rows) / 2
	first := api.Relation{Name: "a", Arity: 1, Rows: full.Rows[:half]}
	second := api.Relation{Name: "c", Arity: 1, Rows: full.Rows[half:]}
	program := "b(X) :- a(X). b(X) :- c(X)."
	if answer := run(t, program, packed(t, first, second)); !slices.Equal(answer, packed(t, full)) {
		t.Errorf("%d files", len(answer))
	}
	second.Rows[len(second.Rows)-1][0] += "z"
	wrongRun(t, program, packed(t, first, second), most, api.ErrLong, 0)
}

// fullRelation answers one whose file has just as many bytes as one may have.
func fullRelation(t *testing.T) api.Relation {
	t.Helper()
	for n := range 400 {
		r := wide("b", 100, n)
		r.Rows = append(r.Rows, []string{"9"})
		left := 65536 - len(packed(t, r)[0])
		if left > 190 {
			continue
		}
		// A long text's length takes a byte more.
		for ; left >= 0; left-- {
			r.Rows[n][0] = "9" + strings.Repeat("z", left)
			if data, _, _ := file.Encode(r); len(data) == 65536 {
				return r
			}
		}
	}
	t.Fatal("no full file")
	return api.Relation{}
}
