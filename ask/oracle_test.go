package ask_test

import (
	"fmt"
	"math/rand"
	"slices"
	"strings"
	"testing"

	"deduce/api"
	"deduce/ask"
	"deduce/syntax"
)

// What the tests hold Ask against: the chapter's words, with each text that there
// is put in the place of each variable in turn, least texts first.

func key(name string, row []string) string { return fmt.Sprintf("%s%q", name, row) }

func termsOf(p api.Part) []api.Term {
	if p.Kind > 1 {
		return []api.Term{p.Left, p.Right}
	}
	return p.Atom.Args
}

// slow answers what Ask must, where there is no error.
func slow(query string, model []api.Relation) ([]string, [][]string) {
	parts, _, _ := syntax.Query(query)
	facts := map[string]bool{}
	var texts []string
	for _, r := range model {
		for _, row := range r.Rows {
			facts[key(r.Name, row)] = true
			texts = append(texts, row...)
		}
	}
	slices.Sort(texts)
	texts = slices.Compact(texts)
	var variables []string
	for _, p := range parts {
		for _, x := range termsOf(p) {
			if x.Var && !slices.Contains(variables, x.Text) {
				variables = append(variables, x.Text)
			}
		}
	}
	var rows [][]string
	way := map[string]string{}
	textOf := func(x api.Term) string {
		if x.Var {
			return way[x.Text]
		}
		return x.Text
	}
	fails := func(p api.Part) bool {
		row := []string{}
		for _, x := range termsOf(p) {
			row = append(row, textOf(x))
		}
		there := facts[key(p.Atom.Name, row)]
		left, right := textOf(p.Left), textOf(p.Right)
		return ![]bool{there, !there, left == right, left != right, left < right}[p.Kind]
	}
	var put func(left []string)
	put = func(left []string) {
		if len(left) > 0 {
			for _, text := range texts {
				way[left[0]] = text
				put(left[1:])
			}
			return
		}
		if slices.ContainsFunc(parts, fails) {
			return
		}
		row := []string{}
		for _, variable := range variables {
			row = append(row, way[variable])
		}
		rows = append(rows, row)
	}
	put(variables)
	return variables, rows
}

// chooser makes queries and models of few names and texts.
type chooser struct{ *rand.Rand }

func (c chooser) pick(things ...string) string { return things[c.Intn(len(things))] }

// term answers one of the variables, or seldom a constant.
func (c chooser) term(variables []string) string {
	if c.Intn(6) == 0 {
		return c.pick("a", "b", "c", "\"\"")
	}
	return c.pick(variables...)
}

// atom answers one whose number of terms its name tells.
func (c chooser) atom(variables []string) string {
	name := c.pick("e2", "e2", "n1", "n1", "q2", "q2", "s0", "t3")
	if c.Intn(12) == 0 {
		name = c.pick("none1", "none2")
	}
	var terms []string
	for range int(name[len(name)-1] - '0') {
		terms = append(terms, c.term(variables))
	}
	if len(terms) == 0 {
		return name
	}
	return name + "(" + strings.Join(terms, ",") + ")"
}

func (c chooser) query() string {
	variables := []string{"X", "Y", "Z", "V", "W"}[:1+c.Intn(5)]
	var parts []string
	for range 1 + c.Intn(4) {
		parts = append(parts, c.atom(variables))
	}
	for range c.Intn(2) * c.Intn(4) {
		if c.Intn(3) == 0 {
			parts = append(parts, "not "+c.atom(variables))
			continue
		}
		parts = append(parts, c.term(variables)+c.pick("=", "!=", "!=", "<")+c.term(variables))
	}
	c.Shuffle(len(parts), func(i, j int) { parts[i], parts[j] = parts[j], parts[i] })
	return strings.Join(parts, ", ") + "."
}

func (c chooser) model() []api.Relation {
	var list []api.Relation
	for _, name := range []string{"e2", "n1", "q2", "s0", "t3"} {
		if c.Intn(8) == 0 {
			continue
		}
		r := api.Relation{Name: name, Arity: int(name[1] - '0')}
		for range 3 + c.Intn(12) {
			row := []string{}
			for range r.Arity {
				row = append(row, c.pick("a", "b", "c", "d", ""))
			}
			r.Rows = append(r.Rows, row)
		}
		list = append(list, r)
	}
	c.Shuffle(len(list), func(i, j int) { list[i], list[j] = list[j], list[i] })
	return list
}

func TestRandomQueries(t *testing.T) {
	c := chooser{rand.New(rand.NewSource(21))}
	held, none, long := 0, 0, 0
	for range 15000 {
		query, model := c.query(), c.model()
		variables, rows, errno, at := ask.Ask(query, model)
		if errno == api.ErrSafe {
			continue
		}
		if errno != api.OK || at != 0 {
			t.Fatalf("Ask(%q, %v): %d %d", query, model, errno, at)
		}
		got := told(variables, rows)
		if want := told(slow(query, model)); got != want {
			t.Fatalf("Ask(%q, %v):\n%s, want\n%s", query, model, got, want)
		}
		held++
		if len(rows) == 0 {
			none++
		}
		if len(rows) > 10 {
			long++
		}
	}
	if held < 8000 || none > held*2/3 || long < 300 {
		t.Errorf("of %d queries %d without rows, %d with many", held, none, long)
	}
}

// All errors of ErrSafe, held against the chapter's words.
func TestRandomUnsafe(t *testing.T) {
	c := chooser{rand.New(rand.NewSource(22))}
	held := 0
	for range 5000 {
		query := c.query()
		parts, _, _ := syntax.Query(query)
		bound := map[string]bool{}
		for _, p := range parts {
			for _, x := range p.Atom.Args {
				bound[x.Text] = bound[x.Text] || p.Kind == 0 && x.Var
			}
		}
		errno, at := api.OK, 0
		for _, p := range parts {
			for _, x := range termsOf(p) {
				if errno == api.OK && x.Var && !bound[x.Text] {
					errno, at = api.ErrSafe, x.At
				}
			}
		}
		_, _, gotErrno, gotAt := ask.Ask(query, c.model())
		if gotErrno != errno || gotAt != at {
			t.Fatalf("Ask(%q): %d %d, want %d %d", query, gotErrno, gotAt, errno, at)
		}
		if errno != api.OK {
			held++
		}
	}
	if held < 500 {
		t.Errorf("%d errors", held)
	}
}
