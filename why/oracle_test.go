package why_test

import (
	"fmt"
	"math/rand"
	"slices"
	"strconv"
	"strings"
	"testing"

	"deduce/api"
	"deduce/check"
	"deduce/eval"
	"deduce/syntax"
	"deduce/why"
)

// What the tests hold Why against: the chapters' words, with each text that there
// is put in the place of each variable in turn, least texts first.

// oracle has the round of each fact, as written by key.
type oracle struct {
	rules  []api.Rule
	levels map[string]int
	rounds map[string]int
	texts  []string
}

func key(name string, row []string) string { return fmt.Sprintf("%s%q", name, row) }

func termsOf(p api.Part) []api.Term { return append(slices.Clone(p.Atom.Args), p.Left, p.Right) }

func newOracle(text string, facts []api.Relation) oracle {
	o := oracle{levels: map[string]int{}, rounds: map[string]int{}}
	o.rules, _, _ = syntax.Parse(text)
	told, _, _ := check.Levels(text)
	top := 0
	for _, l := range told {
		o.levels[l.Name] = l.Number
		top = max(top, l.Number)
	}
	for _, r := range facts {
		for _, row := range r.Rows {
			o.rounds[key(r.Name, row)] = 0
			o.texts = append(o.texts, row...)
		}
	}
	for _, rule := range o.rules {
		terms := slices.Clone(rule.Head.Args)
		for _, p := range rule.Body {
			terms = append(terms, termsOf(p)...)
		}
		for _, x := range terms {
			if !x.Var {
				o.texts = append(o.texts, x.Text)
			}
		}
	}
	slices.Sort(o.texts)
	o.texts = slices.Compact(o.texts)
	for level := range top + 1 {
		o.follow(level)
	}
	return o
}

func (o oracle) follow(level int) {
	for round := 1; ; round++ {
		var told []string
		for _, rule := range o.rules {
			if o.levels[rule.Head.Name] != level {
				continue
			}
			o.ways(rule, func(way map[string]string) bool {
				told = append(told, key(rule.Head.Name, rowOf(rule.Head, way)))
				return true
			})
		}
		before := len(o.rounds)
		for _, fact := range told {
			if _, there := o.rounds[fact]; !there {
				o.rounds[fact] = round
			}
		}
		if len(o.rounds) == before {
			return
		}
	}
}

// ways hands out the ways in which the body holds, the least ones first, until it
// is told to stop.
func (o oracle) ways(rule api.Rule, yield func(map[string]string) bool) {
	var variables []string
	for _, p := range rule.Body {
		for _, x := range termsOf(p) {
			if x.Var && !slices.Contains(variables, x.Text) {
				variables = append(variables, x.Text)
			}
		}
	}
	way := map[string]string{}
	var put func(left []string) bool
	put = func(left []string) bool {
		if len(left) == 0 {
			holds := !slices.ContainsFunc(rule.Body, func(p api.Part) bool { return !o.holds(p, way) })
			return !holds || yield(way)
		}
		for _, text := range o.texts {
			way[left[0]] = text
			if !put(left[1:]) {
				return false
			}
		}
		return true
	}
	put(variables)
}

func rowOf(atom api.Atom, way map[string]string) []string {
	row := []string{}
	for _, x := range atom.Args {
		row = append(row, textOf(x, way))
	}
	return row
}

func textOf(x api.Term, way map[string]string) string {
	if x.Var {
		return way[x.Text]
	}
	return x.Text
}

func (o oracle) holds(p api.Part, way map[string]string) bool {
	_, there := o.rounds[key(p.Atom.Name, rowOf(p.Atom, way))]
	left, right := textOf(p.Left, way), textOf(p.Right, way)
	return []bool{there, !there, left == right, left != right, left < right}[p.Kind]
}

// proof writes the lines of a fact, and keeps which facts have one.
func (o oracle) proof(name string, row []string, blanks string, ahead map[string]bool) string {
	atom := name
	var constants []string
	for _, text := range row {
		constants = append(constants, syntax.Constant(text))
	}
	if len(row) > 0 {
		atom += "(" + strings.Join(constants, ", ") + ")"
	}
	fact := key(name, row)
	round := o.rounds[fact]
	if round == 0 {
		return blanks + atom + " given\n"
	}
	if ahead[fact] {
		return blanks + atom + " as above\n"
	}
	ahead[fact] = true
	for i, rule := range o.rules {
		if rule.Head.Name != name {
			continue
		}
		text := ""
		o.ways(rule, func(way map[string]string) bool {
			if key(name, rowOf(rule.Head, way)) != fact {
				return true
			}
			for _, p := range rule.Body {
				below := o.levels[p.Atom.Name] < o.levels[name]
				if p.Kind == 0 && !below && o.rounds[key(p.Atom.Name, rowOf(p.Atom, way))] >= round {
					return true
				}
			}
			text = blanks + atom + " by rule " + strconv.Itoa(i+1) + "\n"
			for _, p := range rule.Body {
				if p.Kind == 0 {
					text += o.proof(p.Atom.Name, rowOf(p.Atom, way), blanks+"  ", ahead)
				}
			}
			return false
		})
		if text != "" {
			return text
		}
	}
	panic("no rule tells " + fact)
}

// holdOracle holds the proofs of all facts against the oracle, and answers how many
// lines the longest one has.
func holdOracle(t *testing.T, text string, facts []api.Relation) int {
	t.Helper()
	model, errno, at := eval.Model(text, facts, 100000)
	if errno != api.OK {
		t.Fatalf("Model(%q, %v): %d %d", text, facts, errno, at)
	}
	o := newOracle(text, facts)
	longest := 0
	for _, r := range model {
		for _, row := range r.Rows {
			got, errno, at := why.Why(text, facts, r.Name, row)
			want := o.proof(r.Name, row, "", map[string]bool{})
			if got != want || errno != api.OK || at != 0 {
				t.Fatalf("Why(%q, %v, %s, %q): %d %d\n%s\nwant\n%s", text, facts, r.Name, row, errno, at, got, want)
			}
			longest = max(longest, strings.Count(got, "\n"))
		}
	}
	return longest
}

// chooser makes programs and facts of few names and texts.
type chooser struct{ *rand.Rand }

func (c chooser) pick(things ...string) string { return things[c.Intn(len(things))] }

func (c chooser) constant() string { return c.pick("a", "b", "c", "\"\"") }

// terms answers those of an atom of a name: its last byte tells how many.
func (c chooser) terms(name string, variables []string) string {
	var list []string
	for range int(name[1] - '0') {
		if len(variables) == 0 || c.Intn(8) == 0 {
			list = append(list, c.constant())
		} else {
			list = append(list, c.pick(variables...))
		}
	}
	if len(list) == 0 {
		return name
	}
	return name + "(" + strings.Join(list, ",") + ")"
}

// rule answers one in which atoms bind what stands elsewhere.
func (c chooser) rule(names []string, rarely int) string {
	variables := []string{"X", "Y", "Z", "W"}[c.Intn(2)*c.Intn(4):]
	var parts []string
	for range c.Intn(8) / 2 {
		parts = append(parts, c.terms(c.pick(names...), variables))
	}
	bound := slices.DeleteFunc(slices.Clone(variables), func(x string) bool {
		return !strings.Contains(strings.Join(parts, " "), x)
	})
	for range c.Intn(2) * c.Intn(3) {
		if c.Intn(rarely) == 0 {
			parts = append(parts, "not "+c.terms(c.pick(names...), bound))
		} else if len(bound) > 0 {
			sides := []string{c.pick(bound...), c.pick(c.pick(bound...), c.constant())}
			c.Shuffle(2, func(i, j int) { sides[i], sides[j] = sides[j], sides[i] })
			parts = append(parts, sides[0]+c.pick("=", "!=", "!=", "<", "<")+sides[1])
		}
	}
	c.Shuffle(len(parts), func(i, j int) { parts[i], parts[j] = parts[j], parts[i] })
	// A head with few variables leaves much to choose.
	head := c.terms(c.pick(names...), bound[:c.Intn(len(bound)+1)])
	if len(parts) == 0 {
		return head + ". "
	}
	return head + ":-" + strings.Join(parts, ",") + ". "
}

// facts answers relations, of which many names have none: there is more to be told
// of these.
func (c chooser) facts(names []string) []api.Relation {
	var list []api.Relation
	for _, name := range names {
		if name != "e2" && c.Intn(3) > 0 {
			continue
		}
		r := api.Relation{Name: name, Arity: int(name[1] - '0')}
		if name == "e2" {
			r.Rows = [][]string{{"d", "b"}, {"b", "c"}, {"c", "a"}, {"a", ""}}
		}
		for range c.Intn(4) {
			row := []string{}
			for range r.Arity {
				row = append(row, c.pick("a", "b", "c", "d", ""))
			}
			r.Rows = append(r.Rows, row)
		}
		list = append(list, r)
	}
	return list
}

func TestRandomPrograms(t *testing.T) {
	c := chooser{rand.New(rand.NewSource(11))}
	all := []string{"n1", "p1", "q2", "r2", "s0", "t3", "u2"}
	held, long := 0, 0
	for range 4000 {
		c.Shuffle(len(all), func(i, j int) { all[i], all[j] = all[j], all[i] })
		names := append([]string{"e2"}, all[:1+c.Intn(len(all))]...)
		rarely := 1 + c.Intn(8)
		var text strings.Builder
		for range c.Intn(16) {
			text.WriteString(c.rule(names, rarely))
		}
		if errno, _ := check.Check(text.String()); errno != api.OK {
			continue
		}
		held++
		if holdOracle(t, text.String(), c.facts(names)) > 6 {
			long++
		}
	}
	if held < 1000 || long < 50 {
		t.Errorf("of %d programs %d with long proofs", held, long)
	}
}

// Graphs, with rules in any order: many ways, rounds and levels.
func TestRandomGraphs(t *testing.T) {
	c := chooser{rand.New(rand.NewSource(12))}
	long := 0
	for range 250 {
		e := api.Relation{Name: "e", Arity: 2}
		for range c.Intn(9) {
			e.Rows = append(e.Rows, []string{c.pick("a", "b", "c", "d", "e"), c.pick("a", "b", "c", "d", "e")})
		}
		rules := []string{
			"r(X,Y):-e(X,Y). ", "r(X,Z):-r(X,Y),r(Y,Z). ", "r(X,Z):-e(X,Y),r(Y,Z). ", "r(X,Z):-r(X,Y),r(Y,W),r(W,Z). ", "r(Y,X):-r(X,Y),r(Y,Y). ",
			"s(X,Z):-r(X,Y),s(Y,Z),X!=Z. ", "s(X,Y):-r(Y,X),X<Y. ", "r(X,Y):-s(X,Y),s(Y,X). ", "m(X):-e(X,Y),not s(X,Y). ", "m(X):-Z!=X,r(X,Y),e(Z,Y). ",
			"k(X,Y):-m(X),m(Y),not r(X,Y). ", "k(X,Z):-k(X,Y),k(Y,Z). ", "all:-k(X,Y),r(Y,Z). ",
		}
		c.Shuffle(len(rules), func(i, j int) { rules[i], rules[j] = rules[j], rules[i] })
		if holdOracle(t, strings.Join(rules[:c.Intn(len(rules)+1)], ""), []api.Relation{e}) > 12 {
			long++
		}
	}
	if long < 20 {
		t.Errorf("%d with long proofs", long)
	}
}
