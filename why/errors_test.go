package why_test

import (
	"slices"
	"strconv"
	"strings"
	"testing"

	"deduce/api"
	"deduce/check"
	"deduce/file"
)

// many answers rows of one text each that differ.
func many(n int) [][]string {
	var rows [][]string
	for i := range n {
		rows = append(rows, []string{strconv.Itoa(i)})
	}
	return rows
}

// The errors of Check come ahead of all others, with their places.
func TestCheckErrors(t *testing.T) {
	for _, text := range []string{
		"p", "p(a,).", "P.", "p :- not not q.", "p :- X < .",
		"p(" + strings.Repeat("a,", 8) + "a).",
		"p(\"" + strings.Repeat("a", 201) + "\").",
		strings.Repeat("p.", 201),
		"p:-" + strings.Repeat("q,", 12) + "q.",
		strings.Repeat(" ", 20001),
		"p(a). p(a,b).",
		"p(X) :- q(Y).", "p :- q(X), not r(Y).", "p(X,Y) :- q(X), Y = X.",
		"q(X) :- n(X), not q(X).", "p :- q. q :- not r. r :- p.",
	} {
		errno, at := check.Check(text)
		if errno == api.OK {
			t.Fatalf("%q has no error", text)
		}
		for _, facts := range []string{"", "p/1: a", "x/1: a | X/1: b", "n/3: a b | n/1", "p/9"} {
			wrong(t, text, given(facts), "p", []string{"a"}, errno, at)
			wrong(t, text, given(facts), "no name", nil, errno, at)
		}
	}
	wrong(t, "q(X) :- n(X), not q(X).", given("n/1: a"), "n", []string{"a"}, api.ErrStrata, 18)
	wrong(t, "p(a). p(a,b).", nil, "p", []string{"a"}, api.ErrArity, 6)
	wrong(t, "p(a). p(X) :- q.", nil, "p", []string{"a"}, api.ErrSafe, 8)
	wrong(t, "p(a). q", nil, "p", []string{"a"}, api.ErrText, 7)
}

// Each relation's error has its number, and comes ahead of ErrMany and ErrNone.
func TestRelationErrors(t *testing.T) {
	long := strings.Repeat("x", 201)
	for _, c := range []struct {
		relation api.Relation
		errno    api.Errno
	}{
		{api.Relation{Name: "N"}, api.ErrName},
		{api.Relation{Name: "not"}, api.ErrName},
		{api.Relation{}, api.ErrName},
		{api.Relation{Name: "m", Arity: -1}, api.ErrRange},
		{api.Relation{Name: "m", Arity: 9}, api.ErrRange},
		{api.Relation{Name: "m", Arity: 1, Rows: [][]string{{"a"}, {"a", "b"}}}, api.ErrArity},
		{api.Relation{Name: "m", Arity: 1, Rows: [][]string{{"a"}, {"a"}, {long}}}, api.ErrLong},
		{api.Relation{Name: "m", Arity: 1, Rows: many(2001)}, api.ErrMany},
		{api.Relation{Name: "n", Arity: 1}, api.ErrTwice},
		{api.Relation{Name: "n", Arity: 2}, api.ErrTwice},
		{api.Relation{Name: "p", Arity: 2, Rows: [][]string{{"a", "b"}}}, api.ErrArity},
		{api.Relation{Name: "e", Arity: 1}, api.ErrArity},
		// Of two errors of one relation the first one that is named.
		{api.Relation{Name: "n", Arity: 9}, api.ErrRange},
		{api.Relation{Name: "e", Arity: 0, Rows: [][]string{{"a"}}}, api.ErrArity},
		{api.Relation{Name: "e", Arity: 1, Rows: [][]string{{long}}}, api.ErrLong},
	} {
		for ahead := range 3 {
			facts := given("n/1: a | k/0: ; | l/2")[:ahead+1]
			facts = append(facts, c.relation, api.Relation{Name: "Behind"})
			wrong(t, "p(X) :- n(X), not e(X,X).", facts, "p", []string{"a"}, c.errno, ahead+1)
			wrong(t, "p(X) :- n(X), not e(X,X).", facts, "none", nil, c.errno, ahead+1)
		}
	}
	if _, errno, _ := file.Tidy(api.Relation{Name: "m", Arity: 1, Rows: many(2000)}); errno != api.OK {
		t.Errorf("2000 rows: %d", errno)
	}
	wrong(t, "p(X) :- n(X).", given("n/1: a | e/1: b; | n/1: c"), "p", []string{"a"}, api.ErrTwice, 2)
}

// A model of more than 100000 facts is too many, whatever is asked for.
func TestTooMany(t *testing.T) {
	text := "p(X,Y) :- n(X), m(Y)."
	facts := []api.Relation{{Name: "n", Arity: 1, Rows: many(317)}, {Name: "m", Arity: 1, Rows: many(313)}}
	// 317 + 313 + 317*313 = 99851
	want := "p(316, 312) by rule 1\n  n(316) given\n  m(312) given\n"
	if got := proven(t, text, facts, "p", "316", "312"); got != want {
		t.Error(got)
	}
	facts = append(facts, api.Relation{Name: "z", Arity: 1, Rows: many(149)})
	if got := proven(t, text, facts, "p", "316", "312"); got != want {
		t.Error(got)
	}
	facts[2].Rows = many(150)
	for _, name := range []string{"p", "n", "none"} {
		wrong(t, text, facts, name, []string{"0"}, api.ErrMany, 0)
	}
}

func TestNone(t *testing.T) {
	text := "p(X) :- n(X), not e(X,X). flag :- n(z)."
	facts := given("n/1: a; b | e/2: b b | k/0: ; | k0/0")
	for _, c := range []struct {
		name string
		row  []string
	}{
		{"p", []string{"b"}}, {"p", []string{"c"}}, {"p", []string{""}}, {"p", []string{"X"}},
		{"p", nil}, {"p", []string{}}, {"p", []string{"a", "a"}}, {"p", slices.Repeat([]string{"a"}, 9)},
		{"n", []string{"c"}}, {"e", []string{"a", "b"}}, {"e", []string{"b"}},
		{"flag", nil}, {"k0", nil}, {"k", []string{"a"}},
		{"q", nil}, {"q", []string{"a"}}, {"", nil}, {"not", nil}, {"P", []string{"a"}}, {"p(a)", nil}, {"p", []string{"a) given\n"}},
		{"\xff", []string{"\xff"}}, {"p", []string{strings.Repeat("a", 100000)}},
	} {
		wrong(t, text, facts, c.name, c.row, api.ErrNone, 0)
	}
	wrong(t, "", nil, "p", nil, api.ErrNone, 0)
	wrong(t, "", nil, "", nil, api.ErrNone, 0)
	wrong(t, "p(a).", nil, "a", nil, api.ErrNone, 0)
	// Given alone.
	wrong(t, "", given("n/1: a"), "n", []string{"b"}, api.ErrNone, 0)
}
