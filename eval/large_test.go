package eval_test

import (
	"strconv"
	"strings"
	"testing"

	"deduce/api"
	"deduce/eval"
)

// chain has n pairs of a number and the next one.
func chain(n int) []api.Relation {
	r := api.Relation{Name: "e", Arity: 2}
	for i := range n {
		r.Rows = append(r.Rows, []string{strconv.Itoa(i), strconv.Itoa(i + 1)})
	}
	return []api.Relation{r}
}

// complete has all pairs of n numbers.
func complete(n int) []api.Relation {
	r := api.Relation{Name: "e", Arity: 2}
	for i := range n * n {
		r.Rows = append(r.Rows, []string{strconv.Itoa(i / n), strconv.Itoa(i % n)})
	}
	return []api.Relation{r}
}

// Large models, and small ones over which there are many ways.
func TestLarge(t *testing.T) {
	long := "e(A,B),e(B,C),e(C,D),e(D,E),e(E,F),e(F,G),e(G,H),e(H,I),e(I,J),e(J,K),e(K,L),e(L,M)"
	for _, c := range []struct {
		text  string
		facts []api.Relation
		want  int
	}{
		{"r(X,Y) :- e(X,Y). r(X,Z) :- r(X,Y), e(Y,Z).", chain(440), 440 + 440*441/2},
		{"r(X,Y) :- e(X,Y). r(X,Z) :- e(X,Y), r(Y,Z).", chain(440), 440 + 440*441/2},
		{"r(X,Y) :- e(X,Y). r(X,Z) :- r(X,Y), r(Y,Z).", chain(200), 200 + 200*201/2},
		{"r(X,Y) :- e(X,Y). r(X,Z) :- r(X,Y), r(Y,Z).", complete(44), 2 * 44 * 44},
		{"p(0). p(Y) :- p(X), e(X,Y).", chain(2000), 2000 + 2001},
		{"p(A,M) :- " + long + ".", complete(44), 2 * 44 * 44},
		{"p(A) :- e(A,B), e(C,D), e(E,F), e(G,H), e(I,J).", chain(2000), 2 * 2000},
		{"p(A) :- e(A,B), e(C,D), e(E,F), A = C, C = E.", chain(2000), 2 * 2000},
		{"p(A,H) :- e(A,B), e(D,E), e(G,H), e(B,C), e(C,D), e(E,F), e(F,G).", chain(2000), 2000 + 1994},
		{"p(A,D) :- e(A,B), e(C,D), B != C, A < \"1\", D < \"10\".", chain(2000), 2000 + 1},
		{"p :- e(A,B), e(C,D), A < C, C < A.", chain(500), 500},
	} {
		list, errno, at := eval.Model(c.text, c.facts, most)
		if got := count(list); got != c.want || errno != api.OK || at != 0 {
			t.Errorf("%s: %d facts, %d, %d, want %d", c.text, got, errno, at, c.want)
		}
	}
}

// What is too many is told as soon as it is.
func TestTooManySoon(t *testing.T) {
	for _, text := range []string{
		"p(A,C) :- e(A,B), e(C,D).",
		"p(A,C,E,G) :- e(A,B), e(C,D), e(E,F), e(G,H).",
		"r(X,Y) :- e(X,Y). r(X,Z) :- r(X,Y), r(Y,Z).",
		"p(X,Y) :- e(X,Z), e(Y,V). q(X,Y,Z,U) :- p(X,Y), p(Z,U). r :- not q(a,a,a,a).",
	} {
		wrong(t, text, chain(2000), 100000, api.ErrMany, 0)
	}
}

// As many rules with as many parts as there may be, all of one level.
func TestManyRules(t *testing.T) {
	var text strings.Builder
	for i := range 199 {
		n := strconv.Itoa(i + 1)
		text.WriteString("p" + n + "(X):-p" + strconv.Itoa(i) + "(X)" + strings.Repeat(",n(X)", 11) + ".\n")
	}
	facts := []api.Relation{{Name: "n", Arity: 1, Rows: many(100)}, {Name: "p0", Arity: 1, Rows: many(50)}}
	list := model(t, text.String(), facts)
	if got := count(list); got != 100+200*50 {
		t.Errorf("%d facts", got)
	}
	level, round, errno, at := eval.Rounds(text.String(), facts, "p199", []string{"49"})
	if level != 0 || round != 199 || errno != api.OK || at != 0 {
		t.Errorf("%d %d %d %d", level, round, errno, at)
	}
}

// As many levels as there may be.
func TestManyLevels(t *testing.T) {
	var text strings.Builder
	for i := range 200 {
		text.WriteString("p" + strconv.Itoa(i+1) + "(X):-n(X),not p" + strconv.Itoa(i) + "(X).\n")
	}
	facts := given("n/1: a; b | p0/1: b | p9/1: a")
	for _, c := range []struct {
		name, text string
		there      bool
	}{{"p200", "b", true}, {"p199", "b", false}, {"p199", "a", true}, {"p200", "a", false}, {"p10", "a", false}, {"p8", "a", false}} {
		level, round, errno, _ := eval.Rounds(text.String(), facts, c.name, []string{c.text})
		number, _ := strconv.Atoi(c.name[1:])
		if c.there && (level != number || round != 1 || errno != api.OK) || !c.there && errno != api.ErrNone {
			t.Errorf("%s(%s): %d %d %d", c.name, c.text, level, round, errno)
		}
	}
}
