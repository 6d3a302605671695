package eval_test

import (
	"strconv"
	"strings"
	"testing"

	"deduce/api"
	"deduce/eval"
)

// when is a case of Rounds: a fact, as a name and its texts, its level and round;
// below 0 if there is no such fact.
type when struct {
	fact         string
	level, round int
}

func holdRounds(t *testing.T, text, facts string, cases []when) {
	t.Helper()
	for _, c := range cases {
		words := strings.Fields(c.fact)
		level, round, errno, at := eval.Rounds(text, given(facts), words[0], words[1:])
		want := [4]int{c.level, c.round, int(api.OK), 0}
		if c.level < 0 {
			want = [4]int{0, 0, int(api.ErrNone), 0}
		}
		if got := [4]int{level, round, int(errno), at}; got != want {
			t.Errorf("Rounds(%q, %q, %s): %v, want %v", text, facts, c.fact, got, want)
		}
	}
}

func TestRounds(t *testing.T) {
	holdRounds(t, "r(X,Y) :- e(X,Y). r(X,Z) :- r(X,Y), e(Y,Z). t :- r(a,e).", "e/2: a b; b c; c d; d e | x/1: a", []when{
		{"e a b", 0, 0},
		{"r a b", 0, 1},
		{"r d e", 0, 1},
		{"r a c", 0, 2},
		{"r a d", 0, 3},
		{"r a e", 0, 4},
		{"t", 0, 5},
		// A name that is not in the text.
		{"x a", 0, 0},
		// Rows that are not there: another order, too few texts, too many, others.
		{"r b a", -1, 0},
		{"r a", -1, 0},
		{"r", -1, 0},
		{"r a b c", -1, 0},
		{"r a b c d e f g h i", -1, 0},
		{"r a nobody", -1, 0},
		{"r ab", -1, 0},
		{"t a", -1, 0},
		{"x b", -1, 0},
		// Names that are nowhere.
		{"y a", -1, 0},
		{"R a b", -1, 0},
		{"not a b", -1, 0},
	})
	// With both sides of a rule growing, a chain is passed in half the rounds.
	holdRounds(t, "r(X,Y) :- e(X,Y). r(X,Z) :- r(X,Y), r(Y,Z).", "e/2: a b; b c; c d; d e; e f", []when{
		{"r a b", 0, 1}, {"r a c", 0, 2}, {"r a d", 0, 3}, {"r a e", 0, 3}, {"r a f", 0, 4}, {"r b f", 0, 3},
	})
}

// What a round adds is not there before the next one, in whatever order rules stand.
func TestRoundsAreWhole(t *testing.T) {
	rules := []string{"a(x). ", "b(X) :- a(X). ", "c(X) :- b(X). ", "d(X) :- c(X), a(X). "}
	want := []when{{"a x", 0, 1}, {"b x", 0, 2}, {"c x", 0, 3}, {"d x", 0, 4}}
	holdRounds(t, rules[0]+rules[1]+rules[2]+rules[3], "", want)
	holdRounds(t, rules[3]+rules[2]+rules[1]+rules[0], "", want)
	holdRounds(t, rules[2]+rules[0]+rules[3]+rules[1], "", want)
}

func TestRoundsOfGivenFacts(t *testing.T) {
	// A given fact is of round 0, though rules tell of it.
	holdRounds(t, "p(a). p(b). q(X) :- p(X).", "p/1: a | q/1: b; c", []when{
		{"p a", 0, 0}, {"p b", 0, 1}, {"q a", 0, 1}, {"q b", 0, 0}, {"q c", 0, 0},
	})
	// Of a higher level too.
	holdRounds(t, "p(X) :- n(X), not q(X). q(X) :- n(X), X = b.", "n/1: a; b | p/1: b; c", []when{
		{"n a", 0, 0}, {"q b", 0, 1}, {"p a", 1, 1}, {"p b", 1, 0}, {"p c", 1, 0}, {"q a", -1, 0},
	})
	holdRounds(t, "", "p/1: a | t/0: ;", []when{{"p a", 0, 0}, {"t", 0, 0}, {"p b", -1, 0}, {"p", -1, 0}, {"q a", -1, 0}})
}

// Rounds are counted anew on each level.
func TestRoundsOfHigherLevels(t *testing.T) {
	holdRounds(t,
		"r(X,Y) :- e(X,Y). r(X,Z) :- r(X,Y), e(Y,Z)."+
			"u(X,Y) :- n(X), n(Y), not r(X,Y). v(X,Y) :- u(X,Y). v(X,Z) :- v(X,Y), u(Y,Z)."+
			"w(X) :- n(X), not v(X,X). y(X) :- w(X). none :- not u(a,a).",
		"e/2: a b; b c; c d | n/1: a; b; c; d",
		[]when{
			{"r a d", 0, 3}, {"u d a", 1, 1}, {"v d a", 1, 2}, {"u a b", -1, 0}, {"v c a", 1, 2}, {"u a a", 1, 1},
			{"w a", -1, 0}, {"none", -1, 0},
		})
	holdRounds(t, "a :- not b. b :- not c. c :- not d. d :- e. e :- f.", "f/0: ;", []when{
		{"f", 0, 0}, {"e", 0, 1}, {"d", 0, 2}, {"c", -1, 0}, {"b", 2, 1}, {"a", -1, 0},
	})
	holdRounds(t, "a :- not b. g :- a. h :- g. b :- not c. c :- not d. d :- e. e :- f.", "", []when{
		{"f", -1, 0}, {"d", -1, 0}, {"c", 1, 1}, {"b", -1, 0}, {"a", 3, 1}, {"g", 3, 2}, {"h", 3, 3},
	})
	// A rule of a higher level that asks nothing below still waits for that level.
	holdRounds(t, "p(a). p(X) :- n(X), not q(X). s(X) :- p(X).", "n/1: b", []when{
		{"p a", 1, 1}, {"p b", 1, 1}, {"s a", 1, 2}, {"s b", 1, 2},
	})
}

// Texts of any bytes and any length may be asked for.
func TestRoundsOfOddTexts(t *testing.T) {
	rules := "p(\"\"). p(\"a,b\"). q(X,Y) :- p(X), p(Y)."
	for _, c := range []struct {
		name  string
		row   []string
		round int
	}{
		{"p", []string{""}, 1},
		{"p", []string{"a,b"}, 1},
		{"q", []string{"", "a,b"}, 2},
		{"q", []string{"", ""}, 2},
		{"q", []string{"a", "b"}, 0},
		{"q", []string{"", "", ""}, 0},
		{"p", nil, 0},
		{"p", []string{strings.Repeat("x", 1000)}, 0},
		{"p", []string{"\xff\x00"}, 0},
		{"", []string{""}, 0},
		{"p\x00", []string{""}, 0},
		{strings.Repeat("p", 1000), nil, 0},
	} {
		level, round, errno, at := eval.Rounds(rules, nil, c.name, c.row)
		there := errno == api.OK
		if level != 0 || round != c.round || at != 0 || there != (c.round > 0) || !there && errno != api.ErrNone {
			t.Errorf("Rounds(%q, %q): %d %d %d %d", c.name, c.row, level, round, errno, at)
		}
	}
}

// As many rounds as there are facts: a number of two digits is counted up.
func TestManyRounds(t *testing.T) {
	next := api.Relation{Name: "next", Arity: 2}
	for i := range 99 {
		next.Rows = append(next.Rows, []string{strconv.Itoa(i), strconv.Itoa(i + 1)})
	}
	rules := "n(0,0). n(X,Z) :- n(X,Y), next(Y,Z). n(Z,0) :- n(X,99), next(X,Z). over :- not n(99,99)."
	for _, c := range []struct{ tens, ones int }{{0, 0}, {0, 1}, {0, 99}, {1, 0}, {57, 31}, {99, 99}} {
		row := []string{strconv.Itoa(c.tens), strconv.Itoa(c.ones)}
		level, round, errno, at := eval.Rounds(rules, []api.Relation{next}, "n", row)
		if level != 0 || round != c.tens*100+c.ones+1 || errno != api.OK || at != 0 {
			t.Errorf("%v: %d %d %d %d", row, level, round, errno, at)
		}
	}
	if _, _, errno, _ := eval.Rounds(rules, []api.Relation{next}, "over", nil); errno != api.ErrNone {
		t.Errorf("over: %d", errno)
	}
}
