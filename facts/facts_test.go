package facts_test

import (
	"fmt"
	"slices"
	"strings"
	"testing"

	"deduce/api"
	"deduce/facts"
)

// edges answers a store with the relation e of arity 2 and these rows, given.
func edges(rows ...string) (*facts.Store, *facts.Relation) {
	s := facts.New()
	given := api.Relation{Name: "e", Arity: 2}
	for _, row := range rows {
		given.Rows = append(given.Rows, strings.Fields(row))
	}
	s.Give(given)
	return s, s.Relation("e", 2)
}

func row(s *facts.Store, text string) facts.Row {
	var r facts.Row
	for i, word := range strings.Fields(text) {
		r[i] = s.Number(word)
	}
	return r
}

// found writes the rows of a span that have a text in the columns where there is
// no '*'.
func found(s *facts.Store, r *facts.Relation, text string, span facts.Span) string {
	var columns facts.Columns
	var like facts.Row
	for i, word := range strings.Fields(text) {
		if word != "*" {
			columns = columns.With(i)
			like[i] = s.Number(word)
		}
	}
	var all []string
	for row := range r.Rows(columns, like, span) {
		all = append(all, s.Text(row[0])+s.Text(row[1]))
	}
	return strings.Join(all, " ")
}

func TestTexts(t *testing.T) {
	s := facts.New()
	for _, text := range []string{"b", "", "a", "b", "", "\xff", "a"} {
		if got := s.Text(s.Number(text)); got != text {
			t.Errorf("%q is now %q", text, got)
		}
	}
	if s.Number("b") != 0 || s.Number("") != 1 || s.Number("a") != 2 || s.Number("\xff") != 3 || s.Number("new") != 4 {
		t.Error("a text has another number than at first")
	}
}

func TestSpans(t *testing.T) {
	s, e := edges("a b", "b c")
	hold := func(when, all, old, news string) {
		t.Helper()
		for _, c := range []struct {
			name, want string
			span       facts.Span
		}{{"All", all, e.All()}, {"Old", old, e.Old()}, {"New", news, e.New()}} {
			got := found(s, e, "* *", c.span)
			if got != c.want || c.span.Empty() != (c.want == "") {
				t.Errorf("%s: %s: %q, %v, want %q", when, c.name, got, c.span.Empty(), c.want)
			}
		}
	}
	turn := func(want bool) {
		t.Helper()
		if got := e.Turn(); got != want {
			t.Errorf("Turn: %v", got)
		}
	}
	hold("ahead of the first round", "", "", "")
	turn(true)
	hold("round 1", "ab bc", "", "ab bc")
	e.Add(row(s, "a c"), 1)
	hold("what comes in a round is not there before it ends", "ab bc", "", "ab bc")
	turn(true)
	hold("round 2", "ab bc ac", "ab bc", "ac")
	turn(false)
	hold("round 3", "ab bc ac", "ab bc ac", "")
	turn(false)
	hold("round 4", "ab bc ac", "ab bc ac", "")
}

func TestRows(t *testing.T) {
	s, e := edges("b a", "a b", "a c", "c c", "a b")
	hold := func(all bool) {
		t.Helper()
		e.Turn()
		for _, c := range []struct{ text, want, more string }{
			{"* *", "ba ab ac cc", "da dd ad"},
			{"a *", "ab ac", "ad"},
			{"* c", "ac cc", ""},
			{"* a", "ba", "da"},
			{"c c", "cc", ""},
			{"c a", "", ""},
			{"d *", "", "da dd"},
			{"d d", "", "dd"},
			{"* new", "", ""},
		} {
			want := c.want
			if all {
				want = strings.TrimSpace(want + " " + c.more)
			}
			if got := found(s, e, c.text, e.All()); got != want {
				t.Errorf("%s: %q, want %q", c.text, got, want)
			}
		}
	}
	hold(false)
	// What was asked for before must find what comes behind.
	for i, text := range []string{"d a", "d d", "a d", "d a", "a b"} {
		if got := e.Add(row(s, text), 1); got != (i < 3) {
			t.Errorf("Add(%s): %v", text, got)
		}
	}
	hold(true)
}

// A loop over rows may add some, and may be left.
func TestRowsLoop(t *testing.T) {
	s, e := edges("a a", "a b", "a c")
	e.Turn()
	var seen []string
	for r := range e.Rows(facts.Columns(0).With(0), row(s, "a"), e.All()) {
		seen = append(seen, s.Text(r[1]))
		for _, more := range []string{"a x", "a y", "a z", "b x"} {
			e.Add(row(s, more), 1)
		}
	}
	if got := strings.Join(seen, ""); got != "abc" {
		t.Error(got)
	}
	for r := range e.Rows(0, facts.Row{}, e.All()) {
		if s.Text(r[1]) == "b" {
			break
		}
		if s.Text(r[1]) != "a" {
			t.Error("the loop was not left")
		}
	}
}

func TestHas(t *testing.T) {
	s, e := edges("a b")
	e.Add(row(s, "b a"), 1)
	for text, want := range map[string]bool{"a b": true, "b a": true, "a a": false, "b b": false, "c d": false} {
		if e.Has(row(s, text)) != want {
			t.Errorf("Has(%s): %v", text, !want)
		}
	}
	flag := s.Relation("flag", 0)
	if flag.Has(facts.Row{}) || !flag.Add(facts.Row{}, 1) || !flag.Has(facts.Row{}) || flag.Add(facts.Row{}, 2) {
		t.Error("the row without texts")
	}
}

func TestRound(t *testing.T) {
	s, e := edges("a b")
	e.Add(row(s, "b a"), 1)
	e.Add(row(s, "c c"), 7)
	e.Add(row(s, "a b"), 9)
	s.Relation("flag", 0).Add(facts.Row{}, 3)
	for _, c := range []struct {
		name  string
		texts []string
		round int
		there bool
	}{
		{"e", []string{"a", "b"}, 0, true},
		{"e", []string{"b", "a"}, 1, true},
		{"e", []string{"c", "c"}, 7, true},
		{"e", []string{"a", "c"}, 0, false},
		{"e", []string{"a", "new"}, 0, false},
		{"e", []string{"a"}, 0, false},
		{"e", nil, 0, false},
		{"e", []string{"a", "b", "c"}, 0, false},
		{"e", slices.Repeat([]string{"a"}, 20), 0, false},
		{"f", []string{"a", "b"}, 0, false},
		{"flag", nil, 3, true},
		{"flag", []string{"a"}, 0, false},
	} {
		if round, there := s.Round(c.name, c.texts); round != c.round || there != c.there {
			t.Errorf("Round(%s, %q): %d, %v", c.name, c.texts, round, there)
		}
	}
}

func TestRelations(t *testing.T) {
	s, e := edges("b a", "a b")
	e.Add(row(s, "a a"), 1)
	s.Relation("z", 3)
	s.Relation("Z", 0).Add(facts.Row{}, 1)
	s.Give(api.Relation{Name: "d", Arity: 1, Rows: [][]string{{"z"}, {""}}})
	want := "[{Z 0 [[]]} {d 1 [[] [z]]} {e 2 [[a a] [a b] [b a]]} {z 3 []}]"
	if got := fmt.Sprint(s.Relations()); got != want {
		t.Errorf("%s, want %s", got, want)
	}
	s.Relations()[2].Rows[0][0] = "spoiled"
	if got := fmt.Sprint(s.Relations()); got != want {
		t.Errorf("an answer is kept: %s", got)
	}
}
