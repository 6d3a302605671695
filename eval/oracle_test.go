package eval_test

import (
	"fmt"
	"math/rand"
	"slices"
	"strings"
	"testing"

	"deduce/api"
	"deduce/check"
	"deduce/eval"
	"deduce/syntax"
)

// What the tests hold Model and Rounds against: the chapter's words, with each
// text that there is put in the place of each variable in turn, and each round
// gone through with all facts.

// oracle has the round of each fact, as written by key.
type oracle struct {
	rounds map[string]int
	texts  []string
}

func key(name string, row []string) string { return fmt.Sprintf("%s%q", name, row) }

func termsOf(p api.Part) []api.Term { return append(slices.Clone(p.Atom.Args), p.Left, p.Right) }

func newOracle(rules []api.Rule, levels map[string]int, facts []api.Relation) oracle {
	o := oracle{rounds: map[string]int{}}
	for _, r := range facts {
		for _, row := range r.Rows {
			o.rounds[key(r.Name, row)] = 0
			o.texts = append(o.texts, row...)
		}
	}
	top := 0
	for _, rule := range rules {
		top = max(top, levels[rule.Head.Name])
		terms := slices.Clone(rule.Head.Args)
		for _, p := range rule.Body {
			terms = append(terms, termsOf(p)...)
		}
		for _, x := range terms {
			if !x.Var {
				o.texts = append(o.texts, x.Text)
			}
		}
	}
	slices.Sort(o.texts)
	o.texts = slices.Compact(o.texts)
	for level := range top + 1 {
		o.follow(rules, levels, level)
	}
	return o
}

func (o oracle) follow(rules []api.Rule, levels map[string]int, level int) {
	for round := 1; ; round++ {
		var told []string
		for _, rule := range rules {
			if levels[rule.Head.Name] == level {
				told = append(told, o.tells(rule)...)
			}
		}
		before := len(o.rounds)
		for _, fact := range told {
			if _, there := o.rounds[fact]; !there {
				o.rounds[fact] = round
			}
		}
		if len(o.rounds) == before {
			return
		}
	}
}

// tells answers the heads of all ways in which the body holds.
func (o oracle) tells(rule api.Rule) []string {
	var variables []string
	for _, p := range rule.Body {
		for _, x := range termsOf(p) {
			if x.Var && !slices.Contains(variables, x.Text) {
				variables = append(variables, x.Text)
			}
		}
	}
	var told []string
	way := map[string]string{}
	var put func(left []string)
	put = func(left []string) {
		if len(left) > 0 {
			for _, text := range o.texts {
				way[left[0]] = text
				put(left[1:])
			}
			return
		}
		if !slices.ContainsFunc(rule.Body, func(p api.Part) bool { return !o.holds(p, way) }) {
			told = append(told, fact(rule.Head, way))
		}
	}
	put(variables)
	return told
}

func textOf(x api.Term, way map[string]string) string {
	if x.Var {
		return way[x.Text]
	}
	return x.Text
}

func fact(atom api.Atom, way map[string]string) string {
	row := []string{}
	for _, x := range atom.Args {
		row = append(row, textOf(x, way))
	}
	return key(atom.Name, row)
}

func (o oracle) holds(p api.Part, way map[string]string) bool {
	_, there := o.rounds[fact(p.Atom, way)]
	left, right := textOf(p.Left, way), textOf(p.Right, way)
	return []bool{there, !there, left == right, left != right, left < right}[p.Kind]
}

// holdOracle holds both calls against the oracle, and answers how many facts and
// levels there are, and the last round.
func holdOracle(t *testing.T, text string, facts []api.Relation) (int, int, int) {
	t.Helper()
	list, errno, at := eval.Model(text, facts, most)
	if errno != api.OK || at != 0 {
		t.Fatalf("Model(%q, %v): %d %d", text, facts, errno, at)
	}
	rules, _, _ := syntax.Parse(text)
	told, _, _ := check.Levels(text)
	levels := map[string]int{}
	for _, l := range told {
		levels[l.Name] = l.Number
	}
	o := newOracle(rules, levels, facts)
	n, top, last := 0, 0, 0
	for i, r := range list {
		if i > 0 && list[i-1].Name >= r.Name {
			t.Fatalf("Model(%q): %s behind %s", text, r.Name, list[i-1].Name)
		}
		for j, row := range r.Rows {
			n++
			want, there := o.rounds[key(r.Name, row)]
			if !there || j > 0 && slices.Compare(r.Rows[j-1], row) >= 0 {
				t.Fatalf("Model(%q, %v): the row %q of %s", text, facts, row, r.Name)
			}
			level, round, errno, at := eval.Rounds(text, facts, r.Name, row)
			if level != levels[r.Name] || round != want || errno != api.OK || at != 0 {
				t.Fatalf("Rounds(%q, %v, %s, %q): %d %d %d %d, want %d %d", text, facts, r.Name, row, level, round, errno, at, levels[r.Name], want)
			}
			top, last = max(top, level), max(last, round)
		}
	}
	if n != len(o.rounds) {
		t.Fatalf("Model(%q, %v): %d facts, want %v", text, facts, n, o.rounds)
	}
	return n, top, last
}

// chooser makes programs and facts of few names and texts.
type chooser struct{ *rand.Rand }

func (c chooser) pick(things ...string) string { return things[c.Intn(len(things))] }

func (c chooser) constant() string { return c.pick("a", "b", "c", "\"\"") }

// terms answers those of an atom of a name: its last byte tells how many.
func (c chooser) terms(name string, variables []string) string {
	var list []string
	for range int(name[1] - '0') {
		if len(variables) == 0 || c.Intn(8) == 0 {
			list = append(list, c.constant())
		} else {
			list = append(list, c.pick(variables...))
		}
	}
	if len(list) == 0 {
		return name
	}
	return name + "(" + strings.Join(list, ",") + ")"
}

func (c chooser) rule(names []string, rarely int) string {
	variables := []string{"X", "Y", "Z", "W"}[c.Intn(2)*c.Intn(4):]
	var parts []string
	for range c.Intn(8) / 2 {
		parts = append(parts, c.terms(c.pick(names...), variables))
	}
	// What the atoms have bound may stand elsewhere.
	bound := slices.DeleteFunc(slices.Clone(variables), func(x string) bool {
		return !strings.Contains(strings.Join(parts, " "), x)
	})
	for range c.Intn(2) * c.Intn(3) {
		if c.Intn(rarely) == 0 {
			parts = append(parts, "not "+c.terms(c.pick(names...), bound))
		} else if len(bound) > 0 {
			sides := []string{c.pick(bound...), c.pick(c.pick(bound...), c.constant(), c.constant())}
			c.Shuffle(2, func(i, j int) { sides[i], sides[j] = sides[j], sides[i] })
			parts = append(parts, sides[0]+c.pick("=", "!=", "!=", "<", "<")+sides[1])
		}
	}
	c.Shuffle(len(parts), func(i, j int) { parts[i], parts[j] = parts[j], parts[i] })
	head := c.terms(c.pick(names...), bound)
	if len(parts) == 0 {
		return head + ". "
	}
	return head + ":-" + strings.Join(parts, ",") + ". "
}

func (c chooser) facts(names []string) []api.Relation {
	var list []api.Relation
	for _, name := range names {
		// Where little is given there is more to be told.
		if name != "e2" && c.Intn(2) == 0 {
			continue
		}
		r := api.Relation{Name: name, Arity: int(name[1] - '0')}
		if name == "e2" {
			r.Rows = [][]string{{"a", "b"}, {"b", "c"}, {"c", "d"}, {"d", ""}}
		}
		for range c.Intn(4) {
			row := []string{}
			for range r.Arity {
				row = append(row, c.pick("a", "b", "c", "d", ""))
			}
			r.Rows = append(r.Rows, row)
		}
		list = append(list, r)
	}
	c.Shuffle(len(list), func(i, j int) { list[i], list[j] = list[j], list[i] })
	return list
}

func TestRandomPrograms(t *testing.T) {
	c := chooser{rand.New(rand.NewSource(7))}
	all := []string{"e2", "n1", "p1", "q2", "r2", "s0", "t3", "u2"}
	held, high, long := 0, 0, 0
	for range 8000 {
		// Few names and much of 'not', or many and little of it.
		c.Shuffle(len(all), func(i, j int) { all[i], all[j] = all[j], all[i] })
		names := all[:1+c.Intn(len(all))]
		rarely := 1 + c.Intn(8)
		var text strings.Builder
		for range c.Intn(12) {
			text.WriteString(c.rule(names, rarely))
		}
		if errno, _ := check.Check(text.String()); errno != api.OK {
			continue
		}
		_, top, last := holdOracle(t, text.String(), c.facts(names))
		held++
		if top > 1 {
			high++
		}
		if last > 3 {
			long++
		}
	}
	if held < 2000 || high < 40 || long < 100 {
		t.Errorf("of %d programs %d with levels above 1, %d with rounds above 3", held, high, long)
	}
}

// Chains with two or three atoms of one growing name, where what is new must be
// looked for in each.
func TestRandomGraphs(t *testing.T) {
	c := chooser{rand.New(rand.NewSource(8))}
	for range 400 {
		e := api.Relation{Name: "e", Arity: 2}
		for range c.Intn(9) {
			e.Rows = append(e.Rows, []string{c.pick("a", "b", "c", "d", "e"), c.pick("a", "b", "c", "d", "e")})
		}
		rules := []string{
			"r(X,Y):-e(X,Y). ", "r(X,Z):-r(X,Y),r(Y,Z). ", "r(X,Z):-r(X,Y),r(Y,W),r(W,Z). ", "r(Y,X):-r(X,Y),r(Y,Y). ",
			"s(X,Z):-r(X,Y),s(Y,Z),X!=Z. ", "s(X,Y):-r(Y,X),X<Y. ", "r(X,Y):-s(X,Y),s(Y,X). ", "m(X):-e(X,Y),not s(X,Y). ",
			"k(X,Y):-m(X),m(Y),not r(X,Y). ", "k(X,Z):-k(X,Y),k(Y,Z). ",
		}
		c.Shuffle(len(rules), func(i, j int) { rules[i], rules[j] = rules[j], rules[i] })
		holdOracle(t, strings.Join(rules[:c.Intn(len(rules)+1)], ""), []api.Relation{e})
	}
}
