package why_test

import "testing"

// Of two rules that tell the fact the first one is taken, whatever its body.
func TestFirstRule(t *testing.T) {
	hold(t, []one{
		{"p(X) :- n(X). p(X) :- m(X).", "n/1: a | m/1: a; b", "p a", "\np(a) by rule 1\n  n(a) given\n"},
		{"p(X) :- m(X). p(X) :- n(X).", "n/1: a | m/1: a; b", "p a", "\np(a) by rule 1\n  m(a) given\n"},
		{"p(X) :- n(X). p(X) :- m(X).", "n/1: a | m/1: a; b", "p b", "\np(b) by rule 2\n  m(b) given\n"},
		{"p(a) :- n(b). p(X) :- n(X). p(a).", "n/1: a", "p a", "\np(a) by rule 2\n  n(a) given\n"},
		{"p(b). p(a). p(X) :- n(X).", "n/1: a", "p a", "\np(a) by rule 2\n"},
		{"p(X) :- n(X). p(X) :- n(X).", "n/1: a", "p a", "\np(a) by rule 1\n  n(a) given\n"},
		// Heads that cannot be the fact.
		{"p(X,X) :- n(X). p(a,Y) :- n(Y). p(X,b) :- n(X). p(X,Y) :- n(X), n(Y).", "n/1: a; b; c", "p c b", "\np(c, b) by rule 3\n  n(c) given\n"},
		{"p(X,X) :- n(X). p(a,Y) :- n(Y). p(X,b) :- n(X). p(X,Y) :- n(X), n(Y).", "n/1: a; b; c", "p b c", "\np(b, c) by rule 4\n  n(b) given\n  n(c) given\n"},
		{"p(X,X) :- n(X). p(a,Y) :- n(Y). p(X,b) :- n(X). p(X,Y) :- n(X), n(Y).", "n/1: a; b; c", "p a a", "\np(a, a) by rule 1\n  n(a) given\n"},
		{"p(X,X) :- n(X). p(a,Y) :- n(Y). p(X,b) :- n(X). p(X,Y) :- n(X), n(Y).", "n/1: a; b; c", "p a b", "\np(a, b) by rule 2\n  n(b) given\n"},
		// Rules whose body does not hold.
		{"p(X) :- n(X), not m(X). p(X) :- m(X), X < a. p(X) :- m(X), X = b. p(X) :- m(X).", "n/1: a | m/1: a", "p a", "\np(a) by rule 4\n  m(a) given\n"},
	})
}

// A rule that tells the fact of what is of its level and came with it or behind it
// is not taken: it would be a proof from itself.
func TestLowerRound(t *testing.T) {
	hold(t, []one{
		{"p(X) :- p(X). p(X) :- n(X).", "n/1: a", "p a", "\np(a) by rule 2\n  n(a) given\n"},
		{"p(X) :- q(X). q(X) :- p(X). p(X) :- n(X).", "n/1: a", "p a", "\np(a) by rule 3\n  n(a) given\n"},
		{"p(X) :- q(X). q(X) :- p(X). p(X) :- n(X).", "n/1: a", "q a", "\nq(a) by rule 2\n  p(a) by rule 3\n    n(a) given\n"},
		// Both came in one round.
		{"p(X) :- q(X). q(X) :- n(X). p(X) :- n(X).", "n/1: a", "p a", "\np(a) by rule 3\n  n(a) given\n"},
		// q came in round 2, p in round 3: by the first rule; where p came sooner, not.
		{"p(X) :- q(X). q(X) :- r(X). r(X) :- n(X).", "n/1: a", "p a", "\np(a) by rule 1\n  q(a) by rule 2\n    r(a) by rule 3\n      n(a) given\n"},
		{"p(X) :- q(X). q(X) :- r(X). r(X) :- n(X). p(X) :- r(X).", "n/1: a", "p a", "\np(a) by rule 4\n  r(a) by rule 3\n    n(a) given\n"},
		// One rule of which some ways are of lower rounds, and the least one is not.
		{"r(X,Y) :- e(X,Y). r(X,Z) :- r(X,Y), r(Y,Z).", "e/2: a a; a b", "r a b", "\nr(a, b) by rule 1\n  e(a, b) given\n"},
		{"p(X) :- q(X,Y), s(Y). q(X,Y) :- n(X), n(Y). s(b). s(a) :- p(c).", "n/1: c; d", "n c", "\nn(c) given\n"},
		{"p(X) :- n(X), s(Y). s(b). s(a) :- p(c).", "n/1: c; d", "p d", "\np(d) by rule 1\n  n(d) given\n  s(b) by rule 2\n"},
		{"p(X) :- n(X), s(Y). s(b). s(a) :- p(c). t :- s(Y), p(Z), s(a).", "n/1: c; d", "t", `
t by rule 4
  s(a) by rule 3
    p(c) by rule 1
      n(c) given
      s(b) by rule 2
  p(c) as above
  s(a) as above
`},
		// Given facts of the own level are of a lower round than all others.
		{"p(X) :- p(Y), n(X).", "p/1: z | n/1: a; b", "p a", "\np(a) by rule 1\n  p(z) given\n  n(a) given\n"},
		{"p(X) :- p(Y), n(X). p(a).", "p/1: z | n/1: a; b", "p a", "\np(a) by rule 1\n  p(z) given\n  n(a) given\n"},
	})
}

// What is of a lower level is there whatever its round.
func TestLowerLevel(t *testing.T) {
	chain := "r(X,Y) :- e(X,Y). r(X,Z) :- r(X,Y), e(Y,Z). "
	hold(t, []one{
		// u is of level 1 and comes in round 1, r a d of level 0 in round 3.
		{chain + "u(X) :- r(a,X), not e(a,X).", "e/2: a b; b c; c d", "u d", `
u(d) by rule 3
  r(a, d) by rule 2
    r(a, c) by rule 2
      r(a, b) by rule 1
        e(a, b) given
      e(b, c) given
    e(c, d) given
`},
		// The first rule's atom is of a lower level and a higher round.
		{chain + "u :- r(a,d), not v. u :- e(a,b).", "e/2: a b; b c; c d", "u", `
u by rule 3
  r(a, d) by rule 2
    r(a, c) by rule 2
      r(a, b) by rule 1
        e(a, b) given
      e(b, c) given
    e(c, d) given
`},
		// The same without 'not' is of one level: of the rounds 1 and 3.
		{chain + "u :- r(a,d). u :- e(a,b).", "e/2: a b; b c; c d", "u", "\nu by rule 4\n  e(a, b) given\n"},
		// Levels and rounds: in each the way is found anew.
		{"a(X) :- n(X). b(X) :- n(X), not a2(X). a2(X) :- a(X), X = x. c(X) :- b(X). c(X) :- c(Y), f(Y,X). d(X) :- c(X), not b(X).", "n/1: x; y | f/2: y z; z w", "d w", `
d(w) by rule 6
  c(w) by rule 5
    c(z) by rule 5
      c(y) by rule 4
        b(y) by rule 2
          n(y) given
      f(y, z) given
    f(z, w) given
`},
	})
}

// Of several ways the least one, by the variables as they first stand in the body.
func TestLeastWay(t *testing.T) {
	hold(t, []one{
		{"p(X) :- e(X,Y).", "e/2: a c; a b; b a", "p a", "\np(a) by rule 1\n  e(a, b) given\n"},
		{"p :- e(X,Y).", "e/2: b a; a z; a c", "p", "\np by rule 1\n  e(a, c) given\n"},
		{"p :- e(Y,X).", "e/2: b a; a z; a c", "p", "\np by rule 1\n  e(a, c) given\n"},
		{"p(X) :- e(Y,X).", "e/2: c a; b a; a b", "p a", "\np(a) by rule 1\n  e(b, a) given\n"},
		// The first variable goes ahead of the second one.
		{"p :- n(X), m(Y), e(Y,X).", "n/1: a; b | m/1: a; b | e/2: a b; b a", "p", "\np by rule 1\n  n(a) given\n  m(b) given\n  e(b, a) given\n"},
		{"p :- m(Y), n(X), e(Y,X).", "n/1: a; b | m/1: a; b | e/2: a b; b a", "p", "\np by rule 1\n  m(a) given\n  n(b) given\n  e(a, b) given\n"},
		// Wherever it first stands: in a comparison, or behind 'not'.
		{"p :- X != Y, m(Y), n(X).", "n/1: a; b | m/1: a; b", "p", "\np by rule 1\n  m(b) given\n  n(a) given\n"},
		{"p :- Y != X, n(X), m(Y).", "n/1: a; b | m/1: a; b", "p", "\np by rule 1\n  n(b) given\n  m(a) given\n"},
		{"p :- not e(X,Y), m(Y), n(X).", "n/1: a; b | m/1: a; b | e/2: a a", "p", "\np by rule 1\n  m(b) given\n  n(a) given\n"},
		{"p :- m(Y), n(X), not e(X,Y).", "n/1: a; b | m/1: a; b | e/2: a a", "p", "\np by rule 1\n  m(a) given\n  n(b) given\n"},
		// The head's variables are what they are, wherever they stand.
		{"p(Y) :- e(X,Y), f(Y,Z).", "e/2: b c; c c; a b | f/2: c z; c y; b a", "p c", "\np(c) by rule 1\n  e(b, c) given\n  f(c, y) given\n"},
		// Texts byte by byte, not as numbers, and a text ahead of one that it begins.
		{"p :- n(X).", "n/1: 9; 10; 100", "p", "\np by rule 1\n  n(10) given\n"},
		{"p :- n(X).", "n/1: b; aa; ab", "p", "\np by rule 1\n  n(aa) given\n"},
		{"p :- n(X).", "n/1: a; B; é; z", "p", "\np by rule 1\n  n(\"B\") given\n"},
		{"p :- n(X,Y).", "n/2: ab a; a b; a c; aa a", "p", "\np by rule 1\n  n(a, b) given\n"},
		// A least text that leads nowhere.
		{"p :- n(X), e(X,Y), e(Y,Z), Z = x.", "n/1: a; b; c | e/2: a b; b a; a x; c c", "p", "\np by rule 1\n  n(b) given\n  e(b, a) given\n  e(a, x) given\n"},
		// The least one of the first rule, though the second has a lesser one.
		{"p :- n(X), X != a. p :- n(X).", "n/1: a; b; c", "p", "\np by rule 1\n  n(b) given\n"},
		// A variable twice.
		{"p :- e(X,X).", "e/2: a b; c c; b b", "p", "\np by rule 1\n  e(b, b) given\n"},
		{"p(X) :- e(X,Y), e(Y,X).", "e/2: a b; b a; a a; a c; c a", "p a", "\np(a) by rule 1\n  e(a, a) given\n  e(a, a) given\n"},
	})
}

// What has no line: atoms behind 'not', and comparisons.
func TestNoLines(t *testing.T) {
	hold(t, []one{
		{"p(X) :- n(X), not q(X), X != b, X = X, X < z. q(b).", "n/1: a; b", "p a", "\np(a) by rule 1\n  n(a) given\n"},
		{"p :- not q, not r(a). q :- r(b).", "r/1: c", "p", "\np by rule 1\n"},
		{"p(X) :- not q(X), X < Y, n(Y), not q(Y), n(X), Y != X. q(b).", "n/1: a; b; c; d", "p a", "\np(a) by rule 1\n  n(c) given\n  n(a) given\n"},
	})
}

// Equal variables, of which the one is bound by the other.
func TestEqual(t *testing.T) {
	hold(t, []one{
		{"p(X) :- X = Y, n(Y), m(X).", "n/1: b; a | m/1: b", "p b", "\np(b) by rule 1\n  n(b) given\n  m(b) given\n"},
		{"p :- X = Y, n(Y), m(X).", "n/1: c; a; b | m/1: c; b", "p", "\np by rule 1\n  n(b) given\n  m(b) given\n"},
		{"p :- b = Y, n(X), n(Y).", "n/1: c; a; b", "p", "\np by rule 1\n  n(a) given\n  n(b) given\n"},
	})
}

// Recursion over rounds and levels, with shared pieces.
func TestRecursion(t *testing.T) {
	text := `
		even(0). even(Y) :- odd(X), s(X,Y).
		odd(Y) :- even(X), s(X,Y).
		rest(X) :- s(X,Y), not even(X).
		rest(X) :- rest(Y), s(X,Y), odd(X).
		pair(X,Y) :- rest(X), even(Y), s(X,Y).`
	hold(t, []one{
		{text, "s/2: 0 1; 1 2; 2 3; 3 4", "pair 1 2", `
pair(1, 2) by rule 6
  rest(1) by rule 4
    s(1, 2) given
  even(2) by rule 2
    odd(1) by rule 3
      even(0) by rule 1
      s(0, 1) given
    s(1, 2) given
  s(1, 2) given
`},
		{text, "s/2: 0 1; 1 0", "odd 1", "\nodd(1) by rule 3\n  even(0) by rule 1\n  s(0, 1) given\n"},
		{text, "s/2: 0 1; 1 0", "even 0", "\neven(0) by rule 1\n"},
		{text, "s/2: 0 0", "odd 0", "\nodd(0) by rule 3\n  even(0) by rule 1\n  s(0, 0) given\n"},
	})
}
