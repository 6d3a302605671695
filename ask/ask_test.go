package ask_test

import (
	"fmt"
	"strings"
	"testing"

	"deduce/api"
	"deduce/ask"
	"deduce/eval"
)

func TestDocument(t *testing.T) {
	model, _, _ := eval.Model("r(X,Y):-edge(X,Y). r(X,Z):-r(X,Y),edge(Y,Z).", given("edge/2: a b; b c"), 100000)
	if got := told(answer(t, "r(X, Y), X != a.", model)); got != "X Y: b,c;" {
		t.Error(got)
	}
}

const some = "e/2: a b; b c; c a; c c | n/1: a; b; c; d | t/0: ; | f/0 | z/1 | three/3: a b c; a a b; c c c"

// The variables as they first stand in the query, each once; the rows in their
// order, rising.
func TestVariables(t *testing.T) {
	hold(t, some, []one{
		{"n(X).", "X: a; b; c; d;"},
		{"e(X,Y).", "X Y: a,b; b,c; c,a; c,c;"},
		{"e(Y,X).", "Y X: a,b; b,c; c,a; c,c;"},
		{"e(X,Y), e(Y,Z).", "X Y Z: a,b,c; b,c,a; b,c,c; c,a,b; c,c,a; c,c,c;"},
		{"e(Y,Z), e(X,Y).", "Y Z X: a,b,c; b,c,a; c,a,b; c,a,c; c,c,b; c,c,c;"},
		{"e(A,Long_Name_2), n(A), n(A).", "A Long_Name_2: a,b; b,c; c,a; c,c;"},
		{"n(B), n(A), A < B, B < c.", "B A: b,a;"},
		// First in a comparison, or behind 'not'.
		{"X != Y, e(Y,X).", "X Y: a,c; b,a; c,b;"},
		{"not e(Y,X), n(X), e(X,Y).", "Y X: a,c; b,a; c,b;"},
		{"Z = X, Y < X, n(Y), n(X), n(Z), Z < c.", "Z X Y: b,b,a;"},
		// A constant with a variable's text is none.
		{"e(X,\"Y\").", "X:"},
		{"n(X), \"Y\" != X, X < b.", "X: a;"},
	})
	variables, rows := answer(t, "w(A,B,C,D,E,F,G,H), w(I,J,K,L,M,N,O,P), w(A,P,C,D,E,F,G,H).", given("w/8: a b c d e f g h; b a c d e f g h; a h c d e f g h"))
	if got := strings.Join(variables, ""); got != "ABCDEFGHIJKLMNOP" || len(rows) != 2*3 {
		t.Errorf("%s %q", got, rows)
	}
}

func TestAtoms(t *testing.T) {
	hold(t, some, []one{
		// Constants.
		{"e(a,X).", "X: b;"},
		{"e(X,c).", "X: b; c;"},
		{"e(X,z).", "X:"},
		{"e(X,\"c\").", "X: b; c;"},
		{"three(a,X,Y).", "X Y: a,b; b,c;"},
		{"three(X,Y,b).", "X Y: a,a;"},
		// One name with several constants.
		{"e(a,X), e(b,Y), not e(X,a).", "X Y: b,c;"},
		{"e(X,a), e(X,c).", "X: c;"},
		{"n(X), not e(X,b), not e(X,c).", "X: d;"},
		{"e(X,Y), not e(a,Y), not e(Y,a).", "X Y: c,a;"},
		// A variable twice in one atom.
		{"e(X,X).", "X: c;"},
		{"three(X,X,Y).", "X Y: a,b; c,c;"},
		{"three(X,X,X).", "X: c;"},
		{"three(X,Y,X).", "X Y: c,c;"},
		{"n(X), not e(X,X).", "X: a; b; d;"},
		// Several atoms, joined or not.
		{"n(X), e(X,Y), n(Y), t.", "X Y: a,b; b,c; c,a; c,c;"},
		{"n(X), e(Y,Y), X < c.", "X Y: a,c; b,c;"},
		{"e(X,Y), e(Y,Z), e(Z,X).", "X Y Z: a,b,c; b,c,a; c,a,b; c,c,c;"},
		{"n(X), f.", "X:"},
		{"n(X), not f.", "X: a; b; c; d;"},
		{"n(X), not t.", "X:"},
		{"n(X), z(Y).", "X Y:"},
		{"n(X), not z(X), X < c.", "X: a; b;"},
	})
}

// An atom whose name is no relation's is no fact.
func TestNoRelation(t *testing.T) {
	hold(t, some, []one{
		{"zz(X).", "X:"},
		{"zz.", ":"},
		{"zz(a).", ":"},
		{"n(X), zz(X).", "X:"},
		{"zz(Y), n(X).", "Y X:"},
		{"not zz.", ": ;"},
		{"not zz(a,b).", ": ;"},
		{"n(X), not zz(X), X < c.", "X: a; b;"},
		{"not zz(Y,X), e(X,Y).", "Y X: a,c; b,a; c,b; c,c;"},
		{"not zz, zz.", ":"},
		{"zz(X), not zz(X).", "X:"},
	})
	hold(t, "", []one{
		{"zz(X).", "X:"},
		{"not zz(a).", ": ;"},
		{"a = a, not n.", ": ;"},
	})
}

func TestComparisons(t *testing.T) {
	hold(t, some, []one{
		{"n(X), X = b.", "X: b;"},
		{"n(X), b = X.", "X: b;"},
		{"n(X), X = z.", "X:"},
		{"n(X), X = X, X < c.", "X: a; b;"},
		{"n(X), n(Y), X = Y.", "X Y: a,a; b,b; c,c; d,d;"},
		{"n(X), X != b.", "X: a; c; d;"},
		{"n(X), b != X.", "X: a; c; d;"},
		{"n(X), X != X.", "X:"},
		{"n(X), X != z, X < b.", "X: a;"},
		{"e(X,Y), X != Y.", "X Y: a,b; b,c; c,a;"},
		{"n(X), X < c.", "X: a; b;"},
		{"n(X), c < X.", "X: d;"},
		{"n(X), X < X.", "X:"},
		{"e(X,Y), X < Y.", "X Y: a,b; b,c;"},
		{"e(X,Y), Y < X.", "X Y: c,a;"},
		{"n(X), n(Y), X < Y, Y < d, X != a.", "X Y: b,c;"},
		{"n(X), a = b.", "X:"},
		{"n(X), a != b, a < b, a = a, X < b.", "X: a;"},
		{"n(X), a < a.", "X:"},
		{"n(X), b < a.", "X:"},
		{"n(X), a != a.", "X:"},
	})
	// Bytes are compared, not numbers or letters.
	hold(t, "n/1: 9; 10; b; ba; B; é", []one{
		{"n(X), X < 9.", "X: 10;"},
		{"n(X), X < b.", "X: 10; 9; B;"},
		{"n(X), b < X.", "X: ba; é;"},
		{"n(X), \"\" < X, X < \"A\".", "X: 10; 9;"},
	})
}

// Without variables: one row without texts, if all holds.
func TestNoVariables(t *testing.T) {
	hold(t, some, []one{
		{"n(a).", ": ;"},
		{"n(zzz).", ":"},
		{"n(a), n(b), e(a,b).", ": ;"},
		{"n(a), n(b), e(b,a).", ":"},
		{"n(a), not e(b,a), a != b.", ": ;"},
		{"t.", ": ;"},
		{"f.", ":"},
		{"not t.", ":"},
		{"not f.", ": ;"},
		{"t, t, not f.", ": ;"},
		{"a = a.", ": ;"},
		{"a = b.", ":"},
		{"a != b.", ": ;"},
		{"a < b.", ": ;"},
		{"b < a.", ":"},
		{"\"\" < a.", ": ;"},
		{"z(a).", ":"},
	})
	for _, query := range []string{"t.", "a = a.", "n(a).", "not zz."} {
		variables, rows := answer(t, query, given(some))
		if len(variables) != 0 || len(rows) != 1 || len(rows[0]) != 0 {
			t.Errorf("%s: %q %q", query, variables, rows)
		}
	}
}

// Texts of all kinds, told as they are.
func TestTexts(t *testing.T) {
	long := strings.Repeat("\x00", 200)
	texts := []string{"", "\x00", "\n", " ", "\"", "A", "X", "\\", "a", "é", "\xff", long}
	r := api.Relation{Name: "n", Arity: 1}
	for _, text := range texts {
		r.Rows = append(r.Rows, []string{text})
	}
	_, rows := answer(t, "n(X).", []api.Relation{r})
	want := fmt.Sprintf("%q", [][]string{{""}, {"\x00"}, {long}, {"\n"}, {" "}, {"\""}, {"A"}, {"X"}, {"\\"}, {"a"}, {"é"}, {"\xff"}})
	if got := fmt.Sprintf("%q", rows); got != want {
		t.Errorf("%s, want %s", got, want)
	}
	for query, want := range map[string]string{
		`n("").`: `[[]]`, `n("\"").`: `[[]]`, `n("\\").`: `[[]]`, `n("\n").`: `[[]]`, `n("X").`: `[[]]`, `n("x").`: `[]`,
		`n(X), X < " ".`: fmt.Sprintf("%q", [][]string{{""}, {"\x00"}, {long}, {"\n"}}),
	} {
		if _, rows := answer(t, query, []api.Relation{r}); fmt.Sprintf("%q", rows) != want {
			t.Errorf("%s: %q, want %s", query, rows, want)
		}
	}
}

// Relations whose rows don't rise, or stand there twice, in whatever order.
func TestUntidy(t *testing.T) {
	hold(t, "n/1: d; b; a; c; b; d; d | e/2: c c; a b; c a; b c; a b", []one{
		{"n(X).", "X: a; b; c; d;"},
		{"e(X,Y).", "X Y: a,b; b,c; c,a; c,c;"},
		{"n(X), e(X,Y), n(Z), e(Y,Z), Z < c.", "X Y Z: b,c,a; c,a,b; c,c,a;"},
		{"n(X), n(Y), Y < b.", "X Y: a,a; b,a; c,a; d,a;"},
	})
	hold(t, "t/0: ; ; ;", []one{{"t.", ": ;"}})
	want := told(answer(t, "e(X,Y), n(Y).", given("n/1: a; b | e/2: a b; b a; b c | k/0")))
	for _, model := range []string{"e/2: a b; b a; b c | n/1: a; b", "k/0 | e/2: b c; b a; a b | n/1: b; a | l/8"} {
		if got := told(answer(t, "e(X,Y), n(Y).", given(model))); got != want {
			t.Errorf("%s: %s, want %s", model, got, want)
		}
	}
}

// What is handed in stays as it is, and no answered row shares memory with it, or
// with another one.
func TestHandedIn(t *testing.T) {
	for _, query := range []string{"e(X,Y).", "e(X,Y), n(X), not e(Y,X).", "e(a,X), n(Y), X != Y.", "n(X).", "w(A,B,C,D,E,F,G,H)."} {
		model := given("n/1: c; a; b; a; c | e/2: b a; a b; c a; a a; b a | w/8: a b c d e f g h | z/1: y; x")
		before := fmt.Sprintf("%#v", model)
		variables, rows := answer(t, query, model)
		want := told(variables, rows)
		for i := range 10 {
			if again := told(answer(t, query, model)); again != want {
				t.Fatalf("%s: asked again (%d): %s, was %s", query, i, again, want)
			}
		}
		for i := range rows {
			others := told(nil, rows[:i]) + told(nil, rows[i+1:])
			row := rows[i][:cap(rows[i])]
			for j := range row {
				row[j] = "spoiled"
			}
			if got := told(nil, rows[:i]) + told(nil, rows[i+1:]); got != others {
				t.Errorf("%s: two rows share memory", query)
			}
		}
		for i := range variables {
			variables[i] = "Spoiled"
		}
		if after := fmt.Sprintf("%#v", model); after != before {
			t.Errorf("%s: %s, was %s", query, after, before)
		}
		if again := told(answer(t, query, model)); again != want {
			t.Errorf("%s: %s, was %s", query, again, want)
		}
	}
}

// A model changed behind an answer changes nothing in it.
func TestNotKept(t *testing.T) {
	model := given("e/2: a b; b c")
	variables, rows := answer(t, "e(X,Y).", model)
	model[0].Rows[0][0] = "spoiled"
	model[0].Rows[1] = nil
	if got := told(variables, rows); got != "X Y: a,b; b,c;" {
		t.Error(got)
	}
	if _, _, errno, at := ask.Ask("e(X,Y).", model); errno != api.ErrArity || at != 0 {
		t.Errorf("%d %d", errno, at)
	}
}
