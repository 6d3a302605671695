package check_test

import (
	"strings"
	"testing"

	"deduce/api"
	"deduce/check"
	"deduce/syntax"
)

// What can be followed: no error of the three kinds, however near one is.
func TestFollowed(t *testing.T) {
	for _, text := range []string{
		"",
		" \t\n% nothing",
		"p.",
		"p(a).",
		"p(a). p(b). p(\"X\").",
		"p :- q.",
		"r(X,Y):-edge(X,Y). r(X,Z):-r(X,Y),edge(Y,Z).",
		"p :- a=b, \"X\"!=\"Y\", 1<2.",
	} {
		hold(t, []taken{{text, api.OK, 0}})
	}
}

// The errors of syntax.Parse come ahead of all others, wherever they stand.
func TestParseErrors(t *testing.T) {
	wrong := "p(X). p. q :- not q. "
	for _, text := range []string{
		"p", "p(a,).", "P.", "p:q.", "p :- not not q.", "p(é).", "not.", "p(a)!", "p(\"a",
		"p(" + strings.Repeat("a,", 8) + "a).",
		"p(\"" + strings.Repeat("a", 201) + "\").",
		"p:-" + strings.Repeat("q,", 12) + "q.",
		strings.Repeat("p.", 201),
		strings.Repeat(" ", 20001),
	} {
		for _, text := range []string{text, wrong + text} {
			_, errno, at := syntax.Parse(text)
			if errno == api.OK {
				t.Fatalf("Parse(%q) has no error", text)
			}
			hold(t, []taken{{text, errno, at}})
		}
	}
	hold(t, []taken{
		{"p(a,).", api.ErrText, 4},
		{wrong + "p(a,).", api.ErrText, 25},
		{"p(" + strings.Repeat("a,", 8) + "a).", api.ErrMany, 18},
		{wrong + "p(\"" + strings.Repeat("a", 201) + "\").", api.ErrLong, 23},
		{strings.Repeat(" ", 20001), api.ErrLong, 0},
	})
}

func TestArity(t *testing.T) {
	hold(t, []taken{
		// The second atom in a head, in a body, behind 'not'.
		{"p(a). p(a,b).", api.ErrArity, 6},
		{"p(a). p.", api.ErrArity, 6},
		{"p. p(a).", api.ErrArity, 3},
		{"p(a) :- p(a,b).", api.ErrArity, 8},
		{"p(a) :- p.", api.ErrArity, 8},
		{"p(a) :- q, q(a).", api.ErrArity, 11},
		{"p(a) :- not q, q(a).", api.ErrArity, 15},
		{"p(a) :- q, not q(a).", api.ErrArity, 15},
		{"p(a) :- not q(a), not q.", api.ErrArity, 22},
		// Across rules.
		{"p :- q(a). q.", api.ErrArity, 11},
		{"p :- not q(a). q.", api.ErrArity, 15},
		{"p :- q(a). r :- s. t :- u, q(a,b).", api.ErrArity, 27},
		{"p :- q(a). r :- not  q(a,b,c).", api.ErrArity, 21},
		{"p :- q(a), a = b. r :- a = b, q.", api.ErrArity, 30},
		// The first one from the left, also where the ones behind it are the more.
		{"p. p(a). p(a). p(a).", api.ErrArity, 3},
		{"p(a). p(a). p(a). p. p(a).", api.ErrArity, 18},
		{"p(a). q. p(a). q(a). p.", api.ErrArity, 15},
		{"p(a) :- q, r(a), r, q(a), p.", api.ErrArity, 17},
		{"% p.\n p(a).\t\n p % p\n .", api.ErrArity, 14},
		// Of another name, or a constant, a number of terms tells nothing.
		{"p. q(a). pp(a,b). p1(a,b,c). pP(a,b,c,d).", api.OK, 0},
		{"p(q). q(p,p). r(\"p\",\"q\",r).", api.OK, 0},
		{"p(a,b,c,d,e,f,g,h). p(h,g,f,e,d,c,b,a).", api.OK, 0},
		{"p(a,b,c,d,e,f,g,h). p(a,b,c,d,e,f,g).", api.ErrArity, 20},
		{"p :- q = a, q(a), q(b).", api.OK, 0},
	})
}

func TestSafe(t *testing.T) {
	hold(t, []taken{
		// In a head.
		{"p(X).", api.ErrSafe, 2},
		{"p(a,X).", api.ErrSafe, 4},
		{"p(X) :- q.", api.ErrSafe, 2},
		{"p(X) :- q(Y).", api.ErrSafe, 2},
		{"p(X,Y) :- q(X).", api.ErrSafe, 4},
		{"p(X) :- q(\"X\").", api.ErrSafe, 2},
		{"p(X) :- q(x).", api.ErrSafe, 2},
		{"p(X) :- q(X1), r(XX).", api.ErrSafe, 2},
		{"p(X) :- not q(X).", api.ErrSafe, 2},
		{"p(X) :- X = a.", api.ErrSafe, 2},
		{"p(\"X\") :- q.", api.OK, 0},
		{"p(X) :- q(X).", api.OK, 0},
		{"p(X,Y,X) :- q(Y), r(a,X).", api.OK, 0},
		// Behind 'not'.
		{"p :- not q(X).", api.ErrSafe, 11},
		{"p :- q(Y), not r(X).", api.ErrSafe, 17},
		{"p :- q(Y), not r(Y,a,X).", api.ErrSafe, 21},
		{"p :- not q(X), not r(X).", api.ErrSafe, 11},
		{"p :- not q(\"X\"), r.", api.OK, 0},
		{"p :- q(X), not r(X).", api.OK, 0},
		// In each kind of comparison, on either side.
		{"p :- X = a.", api.ErrSafe, 5},
		{"p :- a = X.", api.ErrSafe, 9},
		{"p :- X = X.", api.ErrSafe, 5},
		{"p :- X != a.", api.ErrSafe, 5},
		{"p :- a != X.", api.ErrSafe, 10},
		{"p :- X < a.", api.ErrSafe, 5},
		{"p :- a < X.", api.ErrSafe, 9},
		{"p(X,Y) :- q(X), Y = X.", api.ErrSafe, 4},
		{"p(X) :- q(X), Y = X.", api.ErrSafe, 14},
		{"p(X) :- q(X), X = Y.", api.ErrSafe, 18},
		{"p :- q(X), X = a, X != b, c < X.", api.OK, 0},
		// An atom of Kind 0 that stands behind binds too.
		{"p(X) :- not q(X), r(X).", api.OK, 0},
		{"p :- X = a, b != Y, X < Y, q(Y), r(X).", api.OK, 0},
		{"p :- not q(X), X < Y, r(Y,X).", api.OK, 0},
		// One of another rule does not.
		{"p :- q(X). r(X) :- s.", api.ErrSafe, 13},
		{"r(X) :- s. p :- q(X).", api.ErrSafe, 2},
		{"p(X) :- q(X). r :- not p(X).", api.ErrSafe, 25},
		// The head of the rule itself does not.
		{"p(X) :- not q(X), a = a.", api.ErrSafe, 2},
		// A variable in an atom of Kind 0 alone is none.
		{"p :- q(X,Y), r(Z).", api.OK, 0},
		// The first one from the left.
		{"p(A) :- q(A). p(B) :- q(A), not r(C), D = E. p(F).", api.ErrSafe, 16},
		{"p(A) :- q(A), not r(C), D = E, not s(F).", api.ErrSafe, 20},
		{"p(A) :- q(A), D = E, not r(C).", api.ErrSafe, 14},
		{"p(A) :- q(A), A = E, D < F, not r(C).", api.ErrSafe, 18},
		{"p(A,b,C,D) :- not s(E), q(A), r(D).", api.ErrSafe, 6},
	})
}

func TestStrata(t *testing.T) {
	hold(t, []taken{
		// The head's own name.
		{"p :- not p.", api.ErrStrata, 9},
		{"q(X) :- n(X), not q(X).", api.ErrStrata, 18},
		{"p(X) :- not  p(X), q(X).", api.ErrStrata, 13},
		{"p(a) :- not p(b).", api.ErrStrata, 12},
		// Over one rule, which stands ahead or behind, with 'not' or without.
		{"p :- not q. q :- p.", api.ErrStrata, 9},
		{"q :- p. p :- not q.", api.ErrStrata, 17},
		{"p :- not q. q :- not p.", api.ErrStrata, 9},
		{"p :- r, not q. q :- s, p, t.", api.ErrStrata, 12},
		// Over several.
		{"p :- not q. q :- r. r :- p.", api.ErrStrata, 9},
		{"r :- p. q :- r. p :- not q.", api.ErrStrata, 25},
		{"p :- q. q :- not r. r :- p.", api.ErrStrata, 17},
		{"a :- not b. b :- c. c :- d. d :- e. e :- f. f :- a.", api.ErrStrata, 9},
		{"f :- a. e :- f. d :- e. c :- d. b :- c. a :- not b.", api.ErrStrata, 49},
		{"a :- not b. b :- c. b :- x. c :- y. c :- d. c :- z. d :- a.", api.ErrStrata, 9},
		{"p :- not q. q :- not r. r :- not p.", api.ErrStrata, 9},
		{"p(X):-q(X). q(X):-not r(X),s(X). r(X):-p(X).", api.ErrStrata, 22},
		// A name in a ring of its own, ahead of the way back.
		{"p :- not q. q :- q, r. r :- q, p.", api.ErrStrata, 9},
		// A 'not' of what is off the ring stands ahead of one of what is on it.
		{"p :- not a, q. q :- p, not b, not p. a :- b. b.", api.ErrStrata, 34},
		// A name that hangs on the head without 'not' is none.
		{"p :- p.", api.OK, 0},
		{"p :- q. q :- p.", api.OK, 0},
		{"p :- q, not r. q :- p, not r.", api.OK, 0},
		{"r(X,Z) :- r(X,Y), r(Y,Z), not s(X).", api.OK, 0},
		// Nor is one that the head hangs on, but that does not hang on the head.
		{"p :- not q.", api.OK, 0},
		{"p :- not q. q :- r. r :- q.", api.OK, 0},
		{"p :- not q, r. q :- r. r :- not s. s.", api.OK, 0},
		{"p :- not q. r :- p.", api.OK, 0},
		{"p :- not q. p :- q. r :- not p.", api.OK, 0},
		{"p :- not pp. pp :- p1. p1 :- p_.", api.OK, 0},
		// A constant, a variable or a side of a comparison is no name.
		{"p(p) :- not q(p), q(P), p = P. q(p). q(X) :- r(X), \"p\" != p.", api.OK, 0},
		// The first one from the left.
		{"a :- not b. b :- not a. c :- not c.", api.ErrStrata, 9},
		{"b. c :- not b, d, not c, not c. a :- not a.", api.ErrStrata, 22},
		{"c :- not d, not e. e :- c. d :- c.", api.ErrStrata, 9},
	})
}

// Of two or three errors the one that is named first is told, wherever they stand.
func TestWhichError(t *testing.T) {
	arity, safe, strata := "a. a(b). ", "s(X). ", "n :- not n. "
	hold(t, []taken{
		{arity + safe, api.ErrArity, 3},
		{safe + arity, api.ErrArity, 9},
		{arity + strata, api.ErrArity, 3},
		{strata + arity, api.ErrArity, 15},
		{safe + strata, api.ErrSafe, 2},
		{strata + safe, api.ErrSafe, 14},
		{arity + safe + strata, api.ErrArity, 3},
		{safe + arity + strata, api.ErrArity, 9},
		{strata + safe + arity, api.ErrArity, 21},
		{strata + arity + safe, api.ErrArity, 15},
		// All three in one rule, and in one atom.
		{"p(X) :- not p(X), p.", api.ErrArity, 18},
		{"p(X) :- not p(X), q.", api.ErrSafe, 2},
		{"p :- not p(X).", api.ErrArity, 9},
		{"p(a) :- not p(X).", api.ErrSafe, 14},
		{"p(a) :- not p(a).", api.ErrStrata, 12},
		{strata + safe + arity + "?", api.ErrText, 27},
	})
}

// The largest program, all of whose names hang on one another, is checked.
func TestLargest(t *testing.T) {
	ring := make([]string, 200)
	for i := range ring {
		ring[i] = name(i) + ":-" + name((i+1)%200)
		for j := range 11 {
			ring[i] += "," + name((i*11+j)%2000)
		}
		ring[i] += ".\n"
	}
	text := strings.Join(ring, "")
	hold(t, []taken{{text, api.OK, 0}})
	strict := strings.Replace(text, ":-", ":-not ", 1)
	hold(t, []taken{{strict, api.ErrStrata, strings.Index(strict, "not ") + 4}})
}

// name answers the i-th of 17576 names, rising.
func name(i int) string {
	return string([]byte{byte('a' + i/676%26), byte('a' + i/26%26), byte('a' + i%26)})
}

// An answer hangs on the text alone: the same one each time.
func TestSameAgain(t *testing.T) {
	text := "d :- not e, not f. c :- not d, not g. b :- c, not a. h :- a, b, c, d. e :- d. f :- d."
	for range 50 {
		if errno, at := check.Check(text); errno != api.ErrStrata || at != 9 {
			t.Fatalf("%d %d", errno, at)
		}
	}
}
