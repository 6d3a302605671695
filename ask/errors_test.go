package ask_test

import (
	"strings"
	"testing"

	"deduce/api"
	"deduce/file"
	"deduce/syntax"
)

// The errors of Query come ahead of all others, with their places.
func TestQueryErrors(t *testing.T) {
	for _, query := range []string{
		"", ".", "n", "n(X)", "n(X", "n(X),", "n(X),.", "n(X) n(Y).", "n(X). n(Y).", "n(X) :- n(X).", "n(X)..", "X.", "X", "X =", "X = .", "X ! a.", "X : a.",
		"not X = a.", "not not n(a).", "n().", "n(a,).", "n(\"a).", "n(\"\\x\").", "not.", "N(a).", "\x00", "n(é).", "%", "n(X) % .",
		"n(" + strings.Repeat("a,", 8) + "a).",
		strings.Repeat("n(a),", 12) + "n(a).",
		"n(\"" + strings.Repeat("a", 201) + "\").",
		strings.Repeat(" ", 20001),
		"n(a)." + strings.Repeat(" ", 19996),
	} {
		_, errno, at := syntax.Query(query)
		if errno == api.OK {
			t.Fatalf("%q has no error", query)
		}
		for _, model := range []string{"", "n/1: a", "n/2: a b", "N/1: a", "n/1 | n/1", "n/9"} {
			wrong(t, query, given(model), errno, at)
		}
	}
	wrong(t, "", nil, api.ErrText, 0)
	wrong(t, "n(X), ", given("n/1: a"), api.ErrText, 6)
	wrong(t, "n(X), m(a,).", given("n/2"), api.ErrText, 10)
	wrong(t, strings.Repeat("n(a),", 12)+"n(a).", given("n/1: a"), api.ErrMany, 60)
	wrong(t, strings.Repeat(" ", 20001), nil, api.ErrLong, 0)
	hold(t, "n/1: a", []one{{strings.Repeat("n(a),", 11) + "n(a)." + strings.Repeat(" ", 19940), ": ;"}})
}

// Each relation's error has its number: that of Tidy, then ErrTwice.
func TestRelationErrors(t *testing.T) {
	long := strings.Repeat("x", 201)
	for _, c := range []struct {
		relation api.Relation
		errno    api.Errno
	}{
		{api.Relation{Name: "N"}, api.ErrName},
		{api.Relation{Name: "not"}, api.ErrName},
		{api.Relation{}, api.ErrName},
		{api.Relation{Name: strings.Repeat("m", 31)}, api.ErrName},
		{api.Relation{Name: "m", Arity: -1}, api.ErrRange},
		{api.Relation{Name: "m", Arity: 9}, api.ErrRange},
		{api.Relation{Name: "m", Arity: 1, Rows: [][]string{{"a"}, {"a", "b"}}}, api.ErrArity},
		{api.Relation{Name: "m", Arity: 0, Rows: [][]string{{}, {"a"}}}, api.ErrArity},
		{api.Relation{Name: "m", Arity: 1, Rows: [][]string{{"a"}, nil}}, api.ErrArity},
		{api.Relation{Name: "m", Arity: 1, Rows: [][]string{{"a"}, {"a"}, {long}}}, api.ErrLong},
		{api.Relation{Name: "m", Arity: 1, Rows: many(2001)}, api.ErrMany},
		{api.Relation{Name: "n", Arity: 1}, api.ErrTwice},
		{api.Relation{Name: "n", Arity: 1, Rows: [][]string{{"a"}}}, api.ErrTwice},
		{api.Relation{Name: "n", Arity: 2}, api.ErrTwice},
		// Of two errors of one relation the first one that is named.
		{api.Relation{Name: "n", Arity: 9}, api.ErrRange},
		{api.Relation{Name: "n", Arity: 1, Rows: [][]string{{}}}, api.ErrArity},
		{api.Relation{Name: "n", Arity: 1, Rows: [][]string{{long}}}, api.ErrLong},
		{api.Relation{Name: "n", Arity: 1, Rows: many(2001)}, api.ErrMany},
		{api.Relation{Name: "N", Arity: 9}, api.ErrName},
		{api.Relation{Name: "m", Arity: 1, Rows: [][]string{{long}, {"a", "b"}}}, api.ErrLong},
		{api.Relation{Name: "m", Arity: 1, Rows: [][]string{{"a", long}, {long}}}, api.ErrArity},
	} {
		for ahead := range 3 {
			model := given("n/1: a | k/0: ; | l/2")[:ahead+1]
			model = append(model, c.relation, api.Relation{Name: "Behind"}, api.Relation{Name: "n", Arity: 1})
			// Ahead of ErrArity and ErrSafe, whether the query asks of it or not.
			for _, query := range []string{"n(X).", "n(X,Y).", "m(X), not m(Y).", "not n(X).", "z = a.", "Z = a."} {
				wrong(t, query, model, c.errno, ahead+1)
			}
		}
	}
	if _, errno, _ := file.Tidy(api.Relation{Name: "m", Arity: 1, Rows: many(2000)}); errno != api.OK {
		t.Errorf("2000 rows: %d", errno)
	}
	// The first relation goes ahead, whichever error it is.
	wrong(t, "n(X).", given("n/1: a | n/1: b | N/1: c"), api.ErrTwice, 1)
	wrong(t, "n(X).", given("n/1: a | N/1: c | n/1: b"), api.ErrName, 1)
	wrong(t, "n(X).", given("n/1: a b | N/1: c | n/1: b"), api.ErrArity, 0)
	wrong(t, "n(X).", given("n/1: a | m/1: c | m/1: d | n/1: b"), api.ErrTwice, 2)
	// Rows that stand there twice are but one.
	rows := append(many(2000), many(2000)...)
	if _, got := answer(t, "m(X).", []api.Relation{{Name: "m", Arity: 1, Rows: rows}}); len(got) != 2000 {
		t.Errorf("%d rows", len(got))
	}
}

func TestArity(t *testing.T) {
	model := "n/1: a | e/2: a b | t/0: ;"
	for _, c := range []struct {
		query string
		at    int
	}{
		{"n.", 0},
		{"n(X,Y).", 0},
		{"e(X).", 0},
		{"t(a).", 0},
		{" e(X).", 1},
		{"n(X), e(X).", 6},
		{"n(X), not e(X).", 10},
		{"not n, e(X,Y).", 4},
		{"n(X), X = a, % no e(X)\n t(X), e(X).", 24},
		{"n(X), m(X), m(X,X), n(X), n(X,X).", 26},
		// Of two the first one from the left.
		{"e(X), n(X,X).", 0},
		{"not e(X), n(X,X).", 4},
		{"n(X,X), not e(X).", 0},
		// Ahead of ErrSafe, wherever that one is.
		{"X = a, n(X,X).", 7},
		{"not n(X), e(X).", 10},
		{"not m(X), Y < Z, not e.", 21},
		{"e(X), not n(Y).", 0},
		{"not e(X).", 4},
	} {
		wrong(t, c.query, given(model), api.ErrArity, c.at)
	}
	// A name that is no relation's may have any number of terms, and now one and
	// now another.
	hold(t, model, []one{
		{"n(X), not m(X), not m(X,X), not m.", "X: a;"},
		{"n(X), m(X), not m(X,X).", "X:"},
		{"not m(a,b), n(X), not m, not m(X).", "X: a;"},
		{"m(X), m(X,Y), m(Y,Z,X).", "X Y Z:"},
		{"not m, not m(a,b,c,d,e,f,g,h).", ": ;"},
		{"m(a,b,c,d,e,f,g,h), m.", ":"},
	})
}

func TestSafe(t *testing.T) {
	model := "n/1: a | e/2: a b | t/0: ;"
	for _, c := range []struct {
		query string
		at    int
	}{
		{"X = a.", 0},
		{"a = X.", 4},
		{"X != Y.", 0},
		{"X < X.", 0},
		{"n(X), X < Y.", 10},
		{"n(X), Y < X.", 6},
		{"n(X), Y = X.", 6},
		{"X = Y, n(X).", 4},
		{"not n(X).", 6},
		{"t, not n(X).", 9},
		{"not m(X).", 6},
		{"not e(X,Y).", 6},
		{"n(X), not e(X,Y).", 14},
		{"n(X), not e(Y,X).", 12},
		{"n(X), not e(X,\"X\"), not e(a,Z).", 28},
		// What stands behind 'not' or in a comparison binds nothing, nor does a
		// constant of that text.
		{"not n(X), X = a, X = X.", 6},
		{"n(\"X\"), X = a.", 8},
		{"n(x), X = x.", 6},
		// Of two the first one from the left.
		{"not n(X), Y = a.", 6},
		{"Y = a, not n(X).", 0},
		{"n(Z), Z = Y, not n(X).", 10},
		{"n(Z), not e(Z,X), Y = Z.", 14},
		{"% X\n Y = a.", 5},
	} {
		wrong(t, c.query, given(model), api.ErrSafe, c.at)
	}
	// Atoms bind what stands ahead of them as well; atoms of no relation too.
	hold(t, model, []one{
		{"X = a, not n(Y), e(X,Y).", "X Y: a,b;"},
		{"not n(Y), m(Y).", "Y:"},
		{"X < b, m(X).", "X:"},
	})
}
