package ask_test

import (
	"slices"
	"strconv"
	"strings"
	"testing"

	"deduce/api"
)

// pairs has the pairs of two numbers below n for which a function says so.
func pairs(name string, n int, has func(i, j int) bool) api.Relation {
	r := api.Relation{Name: name, Arity: 2}
	for i := range n {
		for j := range n {
			if has(i, j) {
				r.Rows = append(r.Rows, []string{strconv.Itoa(i), strconv.Itoa(j)})
			}
		}
	}
	return r
}

// Many rows, and few ones over which there are many ways.
func TestLarge(t *testing.T) {
	long := "e(A,B),e(B,C),e(C,D),e(D,E),e(E,F),e(F,G),e(G,H),e(H,I),e(I,J),e(J,K)"
	chain := pairs("e", 1001, func(i, j int) bool { return j == i+1 })
	complete := pairs("e", 44, func(i, j int) bool { return true })
	rising := pairs("e", 44, func(i, j int) bool { return i < j })
	numbers := api.Relation{Name: "n", Arity: 1, Rows: many(1000)}
	for _, c := range []struct {
		query string
		model []api.Relation
		want  int
	}{
		{"n(X).", []api.Relation{numbers}, 1000},
		{"n(X), n(Y).", []api.Relation{numbers}, 1000000},
		{"n(X), n(Y), X < Y.", []api.Relation{numbers}, 1000 * 999 / 2},
		{"n(X), n(Y), n(Z), Z = Y, Y = X.", []api.Relation{numbers}, 1000},
		{long + ".", []api.Relation{chain}, 991},
		{long + ", e(K,L), e(L,M).", []api.Relation{chain}, 989},
		{"n(A), n(F), " + long + ".", []api.Relation{chain, numbers}, 991},
		// Nothing, which is found without all ways to the last part.
		{long + ", not e(K,K).", []api.Relation{complete}, 0},
		{long + ", f(K).", []api.Relation{complete}, 0},
		{long + ", K < A, A < K.", []api.Relation{complete}, 0},
		{long + ", e(K,A).", []api.Relation{rising}, 0},
		{"e(A,B), e(A,C), e(A,D), e(A,E), e(A,F), e(A,G), e(A,H), e(A,I), e(B,A).", []api.Relation{rising}, 0},
		// Few rows behind many dead ends.
		{long + ", e(K,L), g(L,A).", []api.Relation{rising, pairs("g", 44, func(i, j int) bool { return i == 11 && j == 0 })}, 1},
	} {
		variables, rows := answer(t, c.query, c.model)
		if len(rows) != c.want {
			t.Errorf("%s: %d rows, want %d", c.query, len(rows), c.want)
		}
		if !slices.IsSortedFunc(rows, slices.Compare[[]string]) || len(variables) == 0 {
			t.Errorf("%s: %q, or rows that don't rise", c.query, variables)
		}
	}
}

// What leads nowhere from a text is not looked through again for each way to it.
func TestDeadEnds(t *testing.T) {
	e, f, g := api.Relation{Name: "e", Arity: 2}, api.Relation{Name: "f", Arity: 2}, api.Relation{Name: "g", Arity: 2}
	for i := range 600 {
		n := strconv.Itoa(i)
		e.Rows = append(e.Rows, []string{"a" + n, "b"})
		f.Rows = append(f.Rows, []string{"b", "y" + n})
		g.Rows = append(g.Rows, []string{"b", "z" + n})
	}
	h := api.Relation{Name: "h", Arity: 2, Rows: [][]string{{"y0", "z7"}, {"y599", "z599"}}}
	_, rows := answer(t, "e(A,B), f(B,Y), g(B,Z), h(Y,Z).", []api.Relation{e, f, g, h})
	if len(rows) != 1200 || strings.Join(rows[0], " ") != "a0 b y0 z7" || strings.Join(rows[1199], " ") != "a99 b y599 z599" {
		t.Errorf("%d rows, %q", len(rows), rows[:2])
	}
}

// As many parts, terms and variables as there may be.
func TestManyVariables(t *testing.T) {
	row := strings.Fields("a b c d e f g h")
	model := []api.Relation{{Name: "w", Arity: 8, Rows: [][]string{row, {"a", "b", "c", "d", "e", "f", "g", "i"}}}}
	var parts []string
	for i := range 12 {
		var terms []string
		for j := range 8 {
			terms = append(terms, "V"+strconv.Itoa(i*8+j))
		}
		parts = append(parts, "w("+strings.Join(terms, ",")+")")
	}
	variables, rows := answer(t, strings.Join(parts, ",")+".", model)
	if len(variables) != 96 || variables[95] != "V95" || len(rows) != 4096 {
		t.Fatalf("%q, %d rows", variables, len(rows))
	}
	if got := strings.Join(rows[1], ""); got != strings.Repeat("abcdefgh", 11)+"abcdefgi" {
		t.Error(got)
	}
}
