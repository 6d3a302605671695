package facts_test

import (
	"fmt"
	"slices"
	"strings"
	"testing"

	"deduce/api"
	"deduce/facts"
)

// edges answers a store with the relation e of arity 2 and these rows, given.
func edges(rows ...string) (*facts.Store, *facts.Relation) {
	s := facts.New()
	given := api.Relation{Name: "e", Arity: 2}
	for _, row := range rows {
		given.Rows = append(given.Rows, strings.Fields(row))
	}
	s.Give(given)
	return s, s.Relation("e", 2)
}

func row(s *facts.Store, text string) facts.Row {
	var r facts.Row
	for i, word := range strings.Fields(text) {
		r[i] = s.Number(word)
	}
	return r
}

// found writes the rows of a span that have a text in the columns where there is
// no '*'.
func found(s *facts.Store, r *facts.Relation, text string, span facts.Span) string {
	var columns facts.Columns
	var like facts.Row
	for i, word := range strings.Fields(text) {
		if word != "*" {
			columns = columns.With(i)
			like[i] = s.Number(word)
		}
	}
	var all []string
	for row := range r.Rows(columns, like, span) {
		all = append(all, s.Text(row[0])+s.Text(row[1]))
	}
	return strings.Join(all, " ")
}

func TestTexts(t *testing.T) {
	s := facts.New()
	for _, text := range []string{"b", "", "a", "b", "", "\xff", "a"} {
		if got := s.Text(s.Number(text)); got != text {
			t.Errorf("%q is now %q", text, got)
		}
	}
	if s.Number("b") != 0 || s.Number("") != 1 || s.Number("a") != 2 || s.Number("\xff") != 3 || s.Number("new") != 4 {
		t.Error("a text has another number than at first")
	}
}

func TestSpans(t *testing.T) {
	s, e := edges("a b", "b c")
	hold := func(when, all, old, news string) {
		t.Helper()
		for _, c := range []struct {
			name, want string
			span       facts.Span
		}{{"All", all, e.All()}, {"Old", old, e.Old()}, {"New", news, e.New()}} {
			got := found(s, e, "* *", c.span)
			if got != c.want || c.span.Empty() != (c.want == "") {
				t.Errorf("%s: %s: %q, %v, want %q", when, c.name, got, c.span.Empty(), c.want)
			}
		}
	}
	turn := func(want bool) {
		t.Helper()
		if got := e.Turn(); got != want {
			t.Errorf("Turn: %v", got)
		}
	}
	hold("ahead of the first round", "", "", "")
	turn(true)
	hold("round 1", "ab bc", "", "ab bc")
	e.Add(row(s, "a c"), 1)
	hold("what comes in a round is not there before it ends", "ab bc", "", "ab bc")
	turn(true)
	hold("round 2", "ab bc ac", "ab bc", "ac")
	turn(false)
	hold("round 3", "ab bc ac", "ab bc ac", "")
	turn(false)
	hold("round 4", "ab bc ac", "ab bc ac", "")
}

func TestRows(t *testing.T) {
	s, e := edges("b a", "a b", "a c", "c c", "a b")
	hold := func(all bool) {
		t.Helper()
		e.Turn()
		for _, c := range []struct{ text, want, more string }{
			{"* *", "ba ab ac cc", "da dd ad"},
			{"a *", "ab ac", "ad"},
			{"* c", "ac cc", ""},
			{"* a", "ba", "da"},
			{"c c", "cc", ""},
			{"c a", "", ""},
			{"d *", "", "da dd"},
			{"d d", "", "dd"},
			{"* new", "", ""},
		} {
			want := c.want
			if all {
				want = strings.TrimSpace(want + " " + c.more)
			}
			if got := found(s, e, c.text, e.All()); got != want {
				t.Errorf("%s: %q, want %q", c.text, got, want)
			}
		}
	}
	hold(false)
	// What was asked for before must find what comes behind.
	for i, text := range []string{"d a", "d d", "a d", "d a", "a b"} {
		if got := e.Add(row(s, text), 1); got != (i < 3) {
			t.Errorf("Add(%s): %v", text, got)
		}
	}
	hold(true)
}

// A loop over rows may add some, and may be left.
func TestRowsLoop(t *testing.T) {
	s, e := edges("a a", "a b", "a c")
	e.Turn()
	var seen []string
	for r := range e.Rows(facts.Columns(0).With(0), row(s, "a"), e.All()) {
		seen = append(seen, s.Text(r[1]))
		for _, more := range []string{"a x", "a y", "a z", "b x"} {
			e.Add(row(s, more), 1)
		}
	}
	if got := strings.Join(seen, ""); got != "abc" {
		t.Error(got)
	}
	for r := range e.Rows(0, facts.Row{}, e.All()) {
		if s.Text(r[1]) == "b" {
			break
		}
		if s.Text(r[1]) != "a" {
			t.Error("the loop was not left")
		}
	}
}

func TestHas(t *testing.T) {
	s, e := edges("a b")
	e.Add(row(s, "b a"), 1)
	for text, want := range map[string]bool{"a b": true, "b a": true, "a a": false, "b b": false, "c d": false} {
		if e.Has(row(s, text)) != want {
			t.Errorf("Has(%s): %v", text, !want)
		}
	}
	flag := s.Relation("flag", 0)
	if flag.Has(facts.Row{}) || !flag.Add(facts.Row{}, 1) || !flag.Has(facts.Row{}) || flag.Add(facts.Row{}, 2) {
		t.Error("the row without texts")
	}
}

func TestRound(t *testing.T) {
	s, e := edges("a b")
	e.Add(row(s, "b a"), 1)
	e.Add(row(s, "c c"), 7)
	e.Add(row(s, "a b"), 9)
	s.Relation("flag", 0).Add(facts.Row{}, 3)
	for _, c := range []struct {
		name  string
		texts []string
		round int
		there bool
	}{
		{"e", []string{"a", "b"}, 0, true},
		{"e", []string{"b", "a"}, 1, true},
		{"e", []string{"c", "c"}, 7, true},
		{"e", []string{"a", "c"}, 0, false},
		{"e", []string{"a", "new"}, 0, false},
		{"e", []string{"a"}, 0, false},
		{"e", nil, 0, false},
		{"e", []string{"a", "b", "c"}, 0, false},
		{"e", slices.Repeat([]string{"a"}, 20), 0, false},
		{"f", []string{"a", "b"}, 0, false},
		{"flag", nil, 3, true},
		{"flag", []string{"a"}, 0, false},
	} {
		if round, there := s.Round(c.name, c.texts); round != c.round || there != c.there {
			t.Errorf("Round(%s, %q): %d, %v", c.name, c.texts, round, there)
		}
	}
}

func TestRelations(t *testing.T) {
	s, e := edges("b a", "a b")
	e.Add(row(s, "a a"), 1)
	s.Relation("z", 3)
	s.Relation("Z", 0).Add(facts.Row{}, 1)
	s.Give(api.Relation{Name: "d", Arity: 1, Rows: [][]string{{"z"}, {""}}})
	want := "[{Z 0 [[]]} {d 1 [[] [z]]} {e 2 [[a a] [a b] [b a]]} {z 3 []}]"
	if got := fmt.Sprint(s.Relations()); got != want {
		t.Errorf("%s, want %s", got, want)
	}
	s.Relations()[2].Rows[0][0] = "spoiled"
	if got := fmt.Sprint(s.Relations()); got != want {
		t.Errorf("an answer is kept: %s", got)
	}
}

// What came ahead of a round is there, whichever round it is now.
func TestBefore(t *testing.T) {
	s, e := edges("a b", "b c")
	for _, c := range []struct {
		text  string
		round int
	}{{"c d", 1}, {"d e", 1}, {"e f", 4}} {
		e.Add(row(s, c.text), c.round)
	}
	hold := func() {
		t.Helper()
		for round, want := range map[int]string{
			-1: "", 0: "", 1: "ab bc", 2: "ab bc cd de", 4: "ab bc cd de", 5: "ab bc cd de ef", 9: "ab bc cd de ef",
		} {
			span := e.Before(round)
			if got := found(s, e, "* *", span); got != want || span.Empty() != (want == "") {
				t.Errorf("Before(%d): %q, %v, want %q", round, got, span.Empty(), want)
			}
		}
	}
	hold()
	e.Turn()
	hold()
	if !facts.New().Relation("n", 1).Before(7).Empty() {
		t.Error("a relation without rows")
	}
}

func TestRowOf(t *testing.T) {
	s, e := edges("a b")
	e.Add(row(s, "b a"), 2)
	s.Relation("flag", 0).Add(facts.Row{}, 3)
	for _, c := range []struct {
		name, texts string
		round       int
		there       bool
	}{
		{"e", "a b", 0, true}, {"e", "b a", 2, true}, {"e", "a a", 0, false}, {"e", "a new", 0, false}, {"e", "a", 0, false},
		{"e", "a b a", 0, false}, {"e", "", 0, false}, {"f", "a b", 0, false}, {"flag", "", 3, true}, {"flag", "a", 0, false},
	} {
		texts := strings.Fields(c.texts)
		r, there := s.Row(c.name, texts)
		if there != c.there {
			t.Errorf("Row(%s, %q): %v", c.name, texts, there)
		}
		if !there {
			continue
		}
		if got := strings.Join(s.TextsOf(r[:len(texts)]), " "); got != c.texts {
			t.Errorf("Row(%s, %q): %q", c.name, texts, got)
		}
		if round, there := s.Relation(c.name, len(texts)).Round(r); round != c.round || !there {
			t.Errorf("Round(%s, %q): %d %v", c.name, texts, round, there)
		}
	}
	if round, there := e.Round(row(s, "a a")); round != 0 || there {
		t.Errorf("a row that is not there: %d", round)
	}
}

func TestTidied(t *testing.T) {
	n := api.Relation{Name: "n", Arity: 1, Rows: [][]string{{"b"}, {"a"}, {"b"}}}
	e := api.Relation{Name: "e", Arity: 2}
	wide := api.Relation{Name: "w", Arity: 9}
	torn := api.Relation{Name: "n", Arity: 1, Rows: [][]string{{}}}
	arities := map[string]int{"n": 1, "e": 3, "other": 0}
	for _, c := range []struct {
		given   []api.Relation
		arities map[string]int
		errno   api.Errno
		at      int
	}{
		{nil, nil, api.OK, 0},
		{[]api.Relation{n, e}, nil, api.OK, 0},
		{[]api.Relation{n}, arities, api.OK, 0},
		{[]api.Relation{n, e}, arities, api.ErrArity, 1},
		{[]api.Relation{e, n}, arities, api.ErrArity, 0},
		{[]api.Relation{n, n}, nil, api.ErrTwice, 1},
		{[]api.Relation{n, e, n, wide}, nil, api.ErrTwice, 2},
		{[]api.Relation{n, wide, n}, nil, api.ErrRange, 1},
		{[]api.Relation{n, e, wide}, arities, api.ErrArity, 1},
		// Of one relation: Tidy's, then ErrTwice, then ErrArity.
		{[]api.Relation{n, torn}, arities, api.ErrArity, 1},
		{[]api.Relation{n, {Name: "n", Arity: -1}}, arities, api.ErrRange, 1},
		{[]api.Relation{n, {Name: "n", Arity: 2}}, arities, api.ErrTwice, 1},
	} {
		list, errno, at := facts.Tidied(c.given, c.arities)
		if errno != c.errno || at != c.at || errno != api.OK && list != nil || errno == api.OK && len(list) != len(c.given) {
			t.Errorf("Tidied(%v): %v, %d, %d, want %d, %d", c.given, list, errno, at, c.errno, c.at)
		}
	}
	list, _, _ := facts.Tidied([]api.Relation{n}, nil)
	if got := fmt.Sprint(list, n.Rows); got != "[{n 1 [[a] [b]]}] [[b] [a] [b]]" {
		t.Error(got)
	}
}
