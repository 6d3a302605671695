package eval_test

import (
	"reflect"
	"slices"
	"strings"
	"testing"

	"deduce/api"
	"deduce/eval"
)

// G1: what rules tell.
func TestRules(t *testing.T) {
	hold(t, []one{
		// Nothing.
		{"", "", ""},
		{"", "n/1: a", "n/1 a;"},
		{"p(X) :- q(X).", "", "p/1|q/1"},
		{"p(X) :- q(X).", "q/1", "p/1|q/1"},
		{"p(X) :- q(X), r(X).", "q/1: a | r/1: b", "p/1|q/1 a;|r/1 b;"},
		{"p(X) :- q(X, b).", "q/2: a c; b a", "p/1|q/2 a,c; b,a;"},
		{"p :- q.", "", "p/0|q/0"},
		// No body.
		{"p.", "", "p/0 ;"},
		{"p. p.", "", "p/0 ;"},
		{"p(a). p(\"b\"). p(1).", "", "p/1 1; a; b;"},
		{"p(a, b, c, d, e, f, g, h).", "", "p/8 a,b,c,d,e,f,g,h;"},
		{"p(a). q(X) :- p(X).", "", "p/1 a;|q/1 a;"},
		{"p(\"\", \"X\", \"x y\").", "", "p/3 ,X,x y;"},
		// Texts of the rules, of the facts and of both.
		{"q(a, X) :- p(X).", "p/1: b", "p/1 b;|q/2 a,b;"},
		{"q(X) :- p(X, \"a\").", "p/2: b a; c b", "p/2 b,a; c,b;|q/1 b;"},
		// A variable twice in one atom, and in the head.
		{"p(X) :- e(X, X).", "e/2: a a; a b; b b", "e/2 a,a; a,b; b,b;|p/1 a; b;"},
		{"p(X, X) :- n(X).", "n/1: a; b", "n/1 a; b;|p/2 a,a; b,b;"},
		{"p(X) :- e(X, Y, X, Y).", "e/4: a b a b; a b b a; a a a a; a b a c; c b a b", "e/4 a,a,a,a; a,b,a,b; a,b,a,c; a,b,b,a; c,b,a,b;|p/1 a;"},
		// A constant of a variable's name is none.
		{"p(X) :- n(X), e(\"X\", X).", "n/1: a; X | e/2: X a; a X", "e/2 X,a; a,X;|n/1 X; a;|p/1 a;"},
		// Rows without texts.
		{"p :- q, r. s :- q, not r.", "q/0: ;", "p/0|q/0 ;|r/0|s/0 ;"},
		// A given name that is told of.
		{"p(X) :- q(X).", "p/1: a; c | q/1: b; c", "p/1 a; b; c;|q/1 b; c;"},
		{"p(X) :- p(X).", "p/1: a", "p/1 a;"},
		{"p(b) :- p(a). p(c) :- p(b).", "p/1: a", "p/1 a; b; c;"},
	})
}

// Comparisons of each kind, with constants and variables on both sides.
func TestComparisons(t *testing.T) {
	for _, c := range []struct{ parts, want string }{
		{"n(X), X = b", "b"},
		{"n(X), b = X", "b"},
		{"n(X), X = z", ""},
		{"n(X), n(Y), X = Y", "a b c"},
		{"n(X), X = X", "a b c"},
		{"n(X), a = a", "a b c"},
		{"n(X), a = b", ""},
		{"n(X), X != b", "a c"},
		{"n(X), b != X", "a c"},
		{"n(X), X != z", "a b c"},
		{"n(X), m(Y), X != Y", "a b c"},
		{"n(X), m(Y), X != Y, Y != c", "a c"},
		{"n(X), X != X", ""},
		{"n(X), a != b", "a b c"},
		{"n(X), a != a", ""},
		{"n(X), X < b", "a"},
		{"n(X), b < X", "c"},
		{"n(X), X < a", ""},
		{"n(X), m(Y), X < Y", "a b"},
		{"n(X), m(Y), Y < X", "c"},
		{"n(X), X < X", ""},
		{"n(X), a < b", "a b c"},
		{"n(X), b < a", ""},
		{"n(X), a < a", ""},
		{"X < Y, Y = c, n(X), m(Y), X != a", "b"},
		{"n(X), \"\" < X", "a b c"},
		{"n(X), X < \"b\\\"\"", "a b"},
	} {
		list := model(t, "p(X) :- "+c.parts+".", given("n/1: a; b; c | m/1: b; c"))
		var got []string
		for _, row := range list[len(list)-1].Rows {
			got = append(got, row[0])
		}
		if strings.Join(got, " ") != c.want {
			t.Errorf("%s: %v, want %s", c.parts, got, c.want)
		}
	}
}

// Byte by byte: not by how large a number is, and not by letters.
func TestLess(t *testing.T) {
	facts := []api.Relation{{Name: "n", Arity: 1, Rows: [][]string{{"10"}, {"9"}, {"é"}, {"z"}, {""}, {"Z"}, {"zz"}, {"\xff"}, {"\x00"}}}}
	list := model(t, "p(X,Y) :- n(X), n(Y), X < Y.", facts)
	rising := []string{"", "\x00", "10", "9", "Z", "z", "zz", "é", "\xff"}
	var want [][]string
	for i, x := range rising {
		for _, y := range rising[i+1:] {
			want = append(want, []string{x, y})
		}
	}
	if !reflect.DeepEqual(list[1].Rows, want) {
		t.Errorf("%q", list[1].Rows)
	}
}

func TestNot(t *testing.T) {
	hold(t, []one{
		// Over a name that is given, one of a lower level, and one that nobody tells of.
		{"p(X) :- n(X), not q(X).", "n/1: a; b | q/1: b; c", "n/1 a; b;|p/1 a;|q/1 b; c;"},
		{"p(X) :- n(X), not q(X). q(X) :- m(X).", "n/1: a; b | m/1: b", "m/1 b;|n/1 a; b;|p/1 a;|q/1 b;"},
		{"p(X) :- n(X), not q(X). q(X) :- m(X).", "n/1: a; b; c | m/1: b | q/1: c", "m/1 b;|n/1 a; b; c;|p/1 a;|q/1 b; c;"},
		{"p(X) :- n(X), not q(X).", "n/1: a; b", "n/1 a; b;|p/1 a; b;|q/1"},
		{"p :- not q.", "", "p/0 ;|q/0"},
		{"p :- not q.", "q/0: ;", "p/0|q/0 ;"},
		{"p :- not q(a).", "q/1: b", "p/0 ;|q/1 b;"},
		{"p :- not q(a).", "q/1: a", "p/0|q/1 a;"},
		{"p(X) :- not q(X, X), n(X).", "n/1: a; b | q/2: a a; b a", "n/1 a; b;|p/1 b;|q/2 a,a; b,a;"},
		// Over what takes several rounds: all of it is looked at.
		{
			"r(X,Y) :- e(X,Y). r(X,Z) :- r(X,Y), e(Y,Z). u(X,Y) :- n(X), n(Y), not r(X,Y).",
			"e/2: a b; b c; c d | n/1: a; d",
			"e/2 a,b; b,c; c,d;|n/1 a; d;|r/2 a,b; a,c; a,d; b,c; b,d; c,d;|u/2 a,a; d,a; d,d;",
		},
		// Levels one above the other, in either order of the rules.
		{"a :- not b. b :- not c. c :- not d. d :- not e.", "", "a/0|b/0 ;|c/0|d/0 ;|e/0"},
		{"d :- not e. c :- not d. b :- not c. a :- not b.", "", "a/0|b/0 ;|c/0|d/0 ;|e/0"},
		{"a :- not b. b :- not c. c :- not d. d :- not e.", "e/0: ;", "a/0 ;|b/0|c/0 ;|d/0|e/0 ;"},
		{
			"p(X) :- n(X), not q(X). q(X) :- n(X), not r(X). r(X) :- n(X), not s(X).",
			"n/1: a; b | s/1: b",
			"n/1 a; b;|p/1 a;|q/1 b;|r/1 a;|s/1 b;",
		},
		// A higher level goes round too, over what stands below.
		{
			"r(X,Y) :- e(X,Y), not off(X). r(X,Z) :- r(X,Y), r(Y,Z). off(X) :- o(X).",
			"e/2: a b; b c; c d; d e | o/1: c",
			"e/2 a,b; b,c; c,d; d,e;|o/1 c;|off/1 c;|r/2 a,b; a,c; b,c; d,e;",
		},
		// A given fact of a higher level is not seen below it.
		{"p(X) :- n(X), not q(X). q(X) :- m(X).", "n/1: a | p/1: b", "m/1|n/1 a;|p/1 a; b;|q/1"},
	})
}

func TestRecursion(t *testing.T) {
	chain := "e/2: a b; b c; c d; d e"
	reach := "r/2 a,b; a,c; a,d; a,e; b,c; b,d; b,e; c,d; c,e; d,e;"
	edges := "e/2 a,b; b,c; c,d; d,e;|"
	hold(t, []one{
		// To the left, to the right, in the middle, and by two atoms at once.
		{"r(X,Y) :- e(X,Y). r(X,Z) :- r(X,Y), e(Y,Z).", chain, edges + reach},
		{"r(X,Y) :- e(X,Y). r(X,Z) :- e(X,Y), r(Y,Z).", chain, edges + reach},
		{"r(X,Z) :- e(X,Y), r(Y,Z). r(X,Y) :- e(X,Y).", chain, edges + reach},
		{"r(X,Y) :- e(X,Y). r(X,Z) :- r(X,Y), r(Y,Z).", chain, edges + reach},
		{"r(X,Y) :- e(X,Y). r(X,U) :- r(X,Y), r(Y,Z), r(Z,U).", chain, edges + "r/2 a,b; a,d; b,c; b,e; c,d; d,e;"},
		{"r(X,Y) :- e(X,Y). r(Y,X) :- r(X,Y).", "e/2: a b; b c", "e/2 a,b; b,c;|r/2 a,b; b,a; b,c; c,b;"},
		// A ring, and names that hang on one another.
		{"r(X,Y) :- e(X,Y). r(X,Z) :- r(X,Y), e(Y,Z).", "e/2: a b; b a", "e/2 a,b; b,a;|r/2 a,a; a,b; b,a; b,b;"},
		{
			"odd(X,Y) :- e(X,Y). odd(X,Z) :- even(X,Y), e(Y,Z). even(X,Z) :- odd(X,Y), e(Y,Z).", chain,
			edges + "even/2 a,c; a,e; b,d; c,e;|odd/2 a,b; a,d; b,c; b,e; c,d; d,e;",
		},
		// A name that is given and told of itself.
		{"e(X,Z) :- e(X,Y), e(Y,Z).", "e/2: a b; b c; c d", "e/2 a,b; a,c; a,d; b,c; b,d; c,d;"},
		// What is new in two atoms of one rule, in the same round and in others.
		{"p(a). q(a). p(b) :- q(a). q(b) :- p(b). s(X) :- p(X), q(X).", "", "p/1 a; b;|q/1 a; b;|s/1 a; b;"},
		{"p(X) :- q(X). q(X) :- n(X). s(X,Y) :- p(X), q(Y), p(Y).", "n/1: a; b", "n/1 a; b;|p/1 a; b;|q/1 a; b;|s/2 a,a; a,b; b,a; b,b;"},
	})
}

// Of all orders of rules and relations the model is the same.
func TestOrderIsNothing(t *testing.T) {
	rules := []string{"r(X,Y) :- e(X,Y). ", "r(X,Z) :- r(X,Y), e(Y,Z). ", "u(X) :- n(X), not r(X,X). ", "v(X) :- n(X), not u(X), not w. "}
	facts := given("e/2: a b; b a; b c | n/1: a; c | x/1: z")
	want := told(model(t, strings.Join(rules, ""), facts))
	for range rules {
		rules = append(rules[1:], rules[0])
		for range facts {
			facts = append(facts[1:], facts[0])
			slices.Reverse(facts[0].Rows)
			if got := told(model(t, strings.Join(rules, ""), facts)); got != want {
				t.Errorf("%v: %s, want %s", rules, got, want)
			}
		}
	}
}

// G2: which relations there are, and in which order they and their rows stand.
func TestNames(t *testing.T) {
	hold(t, []one{
		// Of the text alone: of a head, a body, and behind 'not'.
		{"p(X) :- q(X, Y), not s.", "", "p/1|q/2|s/0"},
		// Of facts alone, with rows and without.
		{"", "z/1: a | b/2 | a/0: ; | c/3: x y z", "a/0 ;|b/2|c/3 x,y,z;|z/1 a;"},
		// Of both.
		{"q(X) :- p(X). r.", "z/1 | p/1: b; a; b | a/8", "a/8|p/1 a; b;|q/1 a; b;|r/0 ;|z/1"},
		// By the bytes.
		{"p_. p1. pZ. p. p10.", "pa/0 | p9/0 | pp/0 | p2/1", "p/0 ;|p1/0 ;|p10/0 ;|p2/1|p9/0|pZ/0 ;|p_/0 ;|pa/0|pp/0"},
		// Rows rise, whenever they came.
		{"p(c). p(a). p(X) :- q(X).", "p/1: d; b | q/1: e; aa", "p/1 a; aa; b; c; d; e;|q/1 aa; e;"},
		{"e(Y,X) :- e(X,Y).", "e/2: b c; b a; a z", "e/2 a,b; a,z; b,a; b,c; c,b; z,a;"},
		{"p(b, a). p(ab, a). p(a, b). p(a, ab).", "", "p/2 a,ab; a,b; ab,a; b,a;"},
	})
}

func TestWhatIsHandedInStays(t *testing.T) {
	text := "r(X,Y) :- e(X,Y). r(X,Z) :- r(X,Y), e(Y,Z). e(x,y)."
	facts := given("n/1: b; a; b | e/2: b c; a b; b c | x/2: z y; a b")
	kept := copyOf(facts)
	row := []string{"a", "c"}
	answer := model(t, text, facts)
	eval.Rounds(text, facts, "r", row)
	if !reflect.DeepEqual(facts, kept) || !slices.Equal(row, []string{"a", "c"}) {
		t.Errorf("what was handed in is now %v, %v", facts, row)
	}
	want := copyOf(answer)
	spoil(answer)
	if !reflect.DeepEqual(facts, kept) {
		t.Error("writing into the answer changes what was handed in")
	}
	answer = model(t, text, facts)
	spoil(facts)
	if !reflect.DeepEqual(answer, want) {
		t.Error("writing into what was handed in changes the answer")
	}
}

// spoil writes over all texts of relations, and into what their rows have room for.
func spoil(list []api.Relation) {
	for _, r := range list {
		for _, row := range r.Rows {
			row = row[:cap(row)]
			for i := range row {
				row[i] = "spoiled"
			}
		}
	}
}

func TestRowsOfAnAnswerShareNothing(t *testing.T) {
	text := "r(X,Y) :- e(X,Y). s(X,Y) :- e(X,Y). q(a,b). q(X,Y) :- r(X,Y)."
	flat := []string{"a", "b", "c", "d", "a", "b"}
	facts := []api.Relation{{Name: "e", Arity: 2, Rows: [][]string{flat[0:2], flat[2:4], flat[4:6]}}}
	want := model(t, text, facts)
	for i, r := range want {
		for j := range r.Rows {
			answer := model(t, text, facts)
			spoil([]api.Relation{{Rows: answer[i].Rows[j : j+1]}})
			_ = append(answer[i].Rows[j], "spoiled")
			answer[i].Rows[j] = want[i].Rows[j]
			if !reflect.DeepEqual(answer, want) {
				t.Errorf("writing into row %d of %s changes another one", j, r.Name)
			}
		}
	}
}

// An answer hangs on what is handed in alone: the same one each time.
func TestSameAgain(t *testing.T) {
	text := "r(X,Y) :- e(X,Y). r(X,Z) :- r(X,Y), r(Y,Z). u(X,Y) :- e(X,Z), e(Y,V), not r(X,Y). v(X) :- u(X,Y), X != Y."
	facts := given("e/2: a b; b c; c d; d b; e f | n/1: a")
	want := told(model(t, text, facts))
	for range 30 {
		if got := told(model(t, text, facts)); got != want {
			t.Fatalf("%s, and then %s", want, got)
		}
	}
}
