package eval_test

import (
	"math"
	"slices"
	"strconv"
	"strings"
	"testing"

	"deduce/api"
	"deduce/check"
	"deduce/eval"
	"deduce/file"
)

// many answers rows of one text each that differ.
func many(n int) [][]string {
	var rows [][]string
	for i := range n {
		rows = append(rows, []string{strconv.Itoa(i)})
	}
	return rows
}

func TestMostOutOfBounds(t *testing.T) {
	for _, most := range []int{-1, 100001, math.MinInt, math.MaxInt, -100000} {
		wrong(t, "", nil, most, api.ErrRange, 0)
		wrong(t, "p.", given("n/1: a"), most, api.ErrRange, 0)
		// Ahead of all other errors.
		wrong(t, "p(", nil, most, api.ErrRange, 0)
		wrong(t, "p(X).", given("N/1: a"), most, api.ErrRange, 0)
	}
}

func TestMostAtItsBounds(t *testing.T) {
	for _, most := range []int{0, 100000} {
		list, errno, at := eval.Model("p(X) :- q(X).", nil, most)
		if got := told(list); got != "p/1|q/1" || errno != api.OK || at != 0 {
			t.Errorf("%d: %s %d %d", most, got, errno, at)
		}
	}
	wrong(t, "p.", nil, 0, api.ErrMany, 0)
	wrong(t, "", given("n/1: a"), 0, api.ErrMany, 0)
	hold(t, []one{{"p.", "n/1: a", "n/1 a;|p/0 ;"}})
}

// The errors of Check come ahead of those of relations, with their places.
func TestCheckErrors(t *testing.T) {
	for _, text := range []string{
		"p", "p(a,).", "P.", "p :- not not q.",
		"p(" + strings.Repeat("a,", 8) + "a).",
		"p(\"" + strings.Repeat("a", 201) + "\").",
		strings.Repeat("p.", 201),
		strings.Repeat(" ", 20001),
		"p(a). p(a,b).",
		"p(X) :- q(Y).", "p :- q(X), not r(Y).", "p(X,Y) :- q(X), Y = X.",
		"q(X) :- n(X), not q(X).", "p :- q. q :- not r. r :- p.",
	} {
		errno, at := check.Check(text)
		if errno == api.OK {
			t.Fatalf("%q has no error", text)
		}
		for _, facts := range []string{"", "p/1: a", "x/1: a | X/1: b", "n/3: a b | n/1", "p/9"} {
			wrong(t, text, given(facts), 100000, errno, at)
			wrong(t, text, given(facts), 0, errno, at)
		}
	}
	wrong(t, "q(X) :- n(X), not q(X).", nil, 100000, api.ErrStrata, 18)
	wrong(t, "p(a). p(a,b).", nil, 100000, api.ErrArity, 6)
}

const text = "p(X) :- n(X), not e(X,X). z."

// Each relation's error has its number, whatever place Tidy tells.
func TestTidyErrors(t *testing.T) {
	long := strings.Repeat("x", 201)
	for _, c := range []struct {
		name  string
		r     api.Relation
		errno api.Errno
	}{
		{"no name", api.Relation{}, api.ErrName},
		{"a capital letter", api.Relation{Name: "N", Arity: 1}, api.ErrName},
		{"not", api.Relation{Name: "not", Arity: 1}, api.ErrName},
		{"arity below 0", api.Relation{Name: "m", Arity: -1}, api.ErrRange},
		{"arity above 8", api.Relation{Name: "m", Arity: 9}, api.ErrRange},
		{"a row that is too short", api.Relation{Name: "n", Arity: 1, Rows: [][]string{{"a"}, {"b"}, {}}}, api.ErrArity},
		{"a row that is too long", api.Relation{Name: "m", Arity: 1, Rows: [][]string{{"a"}, {"b"}, {"a", "b"}}}, api.ErrArity},
		{"a long text", api.Relation{Name: "m", Arity: 1, Rows: [][]string{{"a"}, {long}}}, api.ErrLong},
		{"2001 rows", api.Relation{Name: "m", Arity: 1, Rows: many(2001)}, api.ErrMany},
	} {
		if _, errno, _ := file.Tidy(c.r); errno != c.errno {
			t.Fatalf("%s: Tidy tells %d", c.name, errno)
		}
		wrong(t, text, []api.Relation{c.r}, 100000, c.errno, 0)
		wrong(t, text, []api.Relation{c.r}, 0, c.errno, 0)
		wrong(t, "", append(given("x/1: a | y/2"), c.r), 100000, c.errno, 2)
		// What comes behind tells nothing.
		wrong(t, text, append(append(given("x/1: a"), c.r), given("x/1 | n/2 | Q/1")...), 100000, c.errno, 1)
	}
}

func TestTwice(t *testing.T) {
	for _, c := range []struct {
		facts string
		at    int
	}{
		{"n/1: a | n/1: b", 1},
		{"n/1: a | n/1: a", 1},
		{"x/1 | x/1", 1},
		{"x/1 | y/1 | x/1", 2},
		{"x/1 | y/1 | y/1 | x/1", 2},
		{"x/1 | x/2: a b", 1},
		{"x/1 | y/2 | z/0 | x/1", 3},
	} {
		wrong(t, text, given(c.facts), 100000, api.ErrTwice, c.at)
		wrong(t, text, given(c.facts), 0, api.ErrTwice, c.at)
	}
}

func TestArity(t *testing.T) {
	for _, c := range []struct {
		facts string
		at    int
	}{
		// Names of a head, of the body, behind 'not', of a rule without body.
		{"p/0", 0},
		{"p/2: a b", 0},
		{"n/2", 0},
		{"e/1: a", 0},
		{"e/3", 0},
		{"z/1: a", 0},
		{"x/1 | n/1: a | e/1", 2},
		{"x/1 | e/8 | n/8", 1},
	} {
		wrong(t, text, given(c.facts), 100000, api.ErrArity, c.at)
		wrong(t, text, given(c.facts), 0, api.ErrArity, c.at)
	}
	// A name that is not in the text has any.
	hold(t, []one{{"p(a).", "q/3: a b c | pp/0: ;", "p/1 a;|pp/0 ;|q/3 a,b,c;"}})
	// A constant or a variable is no name.
	hold(t, []one{{"p(q) :- q = \"q\".", "q/3", "p/1 q;|q/3"}})
}

// Where a relation has two errors the one that is named first is told; of two
// relations the first one's.
func TestWhichError(t *testing.T) {
	badRow := api.Relation{Name: "n", Arity: 2, Rows: [][]string{{"a"}}}
	badLong := api.Relation{Name: "n", Arity: 2, Rows: [][]string{{"a", strings.Repeat("x", 201)}}}
	good, twice, other := given("n/1: a")[0], given("n/1: b")[0], given("n/2: a b")[0]
	for _, c := range []struct {
		facts []api.Relation
		errno api.Errno
		at    int
	}{
		// Tidy's and ErrTwice; Tidy's and ErrArity; all three.
		{[]api.Relation{good, badRow}, api.ErrArity, 1},
		{[]api.Relation{good, badLong}, api.ErrLong, 1},
		{[]api.Relation{badLong}, api.ErrLong, 0},
		{[]api.Relation{good, {Name: "n", Arity: 1, Rows: many(2001)}}, api.ErrMany, 1},
		{[]api.Relation{{Name: "n", Arity: 9}}, api.ErrRange, 0},
		// ErrTwice and ErrArity.
		{[]api.Relation{good, other}, api.ErrTwice, 1},
		{[]api.Relation{other, other}, api.ErrArity, 0},
		{[]api.Relation{other, good}, api.ErrArity, 0},
		// Two relations with one each.
		{[]api.Relation{good, twice, badLong}, api.ErrTwice, 1},
		{[]api.Relation{good, badLong, twice}, api.ErrLong, 1},
		{[]api.Relation{given("e/1")[0], badLong}, api.ErrArity, 0},
		{[]api.Relation{badLong, given("e/1")[0]}, api.ErrLong, 0},
		{[]api.Relation{given("e/2")[0], good, given("p/7")[0], twice}, api.ErrArity, 2},
		{[]api.Relation{given("e/2")[0], good, twice, given("p/7")[0]}, api.ErrTwice, 2},
	} {
		wrong(t, text, c.facts, 100000, c.errno, c.at)
		wrong(t, text, c.facts, 0, c.errno, c.at)
	}
}

// One fact more than most is too many, most are not, whatever they are of.
func TestTooMany(t *testing.T) {
	for _, c := range []struct{ text, facts string }{
		{"", "n/1: a"},
		{"", "n/1: a; b; a | m/1: a; b"},
		{"p.", ""},
		{"p(a). p(b). p(a). q(a).", ""},
		{"p(X) :- n(X).", "n/1: a; b; c"},
		{"p(X) :- n(X).", "n/1: a; b; c | p/1: a; d"},
		{"r(X,Y) :- e(X,Y). r(X,Z) :- r(X,Y), e(Y,Z).", "e/2: a b; b c; c d | n/1: a; b; c; d"},
		{"p(X,Y,Z) :- n(X), n(Y), n(Z).", "n/1: a; b; c; d; e"},
		{"p :- not q. q :- not r. r :- not s.", ""},
		{"p(X) :- n(X), not q(X). q(X) :- n(X), X < c. r(X) :- p(X). r(X) :- q(X).", "n/1: a; b; c; d"},
	} {
		facts := given(c.facts)
		whole := model(t, c.text, facts)
		n := count(whole)
		for most := range n + 3 {
			if most < n {
				wrong(t, c.text, facts, most, api.ErrMany, 0)
				continue
			}
			list, errno, at := eval.Model(c.text, facts, most)
			if told(list) != told(whole) || errno != api.OK || at != 0 {
				t.Errorf("Model(%q, %q, %d): %d %d", c.text, c.facts, most, errno, at)
			}
		}
	}
}

// The greatest model, and one fact more.
func TestGreatest(t *testing.T) {
	rules := "p(X,Y) :- a(X), b(Y)."
	facts := []api.Relation{
		{Name: "a", Arity: 1, Rows: many(300)},
		{Name: "b", Arity: 1, Rows: many(331)},
		{Name: "c", Arity: 1, Rows: many(69)},
	}
	list, errno, at := eval.Model(rules, facts, 100000)
	if errno != api.OK || at != 0 || count(list) != 100000 {
		t.Fatalf("%d facts, %d, %d", count(list), errno, at)
	}
	p := list[3].Rows
	if len(p) != 99300 || !slices.IsSortedFunc(p, slices.Compare[[]string]) {
		t.Errorf("%d rows of p", len(p))
	}
	if level, round, errno, at := eval.Rounds(rules, facts, "p", []string{"299", "330"}); level != 0 || round != 1 || errno != api.OK || at != 0 {
		t.Errorf("Rounds: %d %d %d %d", level, round, errno, at)
	}
	wrong(t, rules, facts, 99999, api.ErrMany, 0)
	wrong(t, rules+" more.", facts, 100000, api.ErrMany, 0)
	facts[2].Rows = many(70)
	wrong(t, rules, facts, 100000, api.ErrMany, 0)
	// Given facts alone, of many relations: none of them may be wrong.
	var lots []api.Relation
	for i := range 51 {
		lots = append(lots, api.Relation{Name: "r" + strconv.Itoa(i), Arity: 1, Rows: many(2000)})
	}
	wrong(t, "", lots, 100000, api.ErrMany, 0)
	wrong(t, "", append(lots, api.Relation{Name: "R"}), 100000, api.ErrName, 51)
	if list, errno, _ := eval.Model("", lots[:50], 100000); errno != api.OK || count(list) != 100000 {
		t.Errorf("%d facts, %d", count(list), errno)
	}
}
