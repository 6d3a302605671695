package check_test

import (
	"math/rand"
	"slices"
	"strings"
	"testing"

	"deduce/api"
	"deduce/check"
	"deduce/syntax"
)

// What the tests hold Check and Levels against: the chapter's words, told of
// lists of pairs, by going through all of them again and again.

// spot is an atom with its rule, its part's kind and whether it is the head.
type spot struct {
	rule, kind int
	head       bool
	atom       api.Atom
}

func spots(rules []api.Rule) []spot {
	var all []spot
	for i, r := range rules {
		all = append(all, spot{i, 0, true, r.Head})
		for _, p := range r.Body {
			if p.Kind < 2 {
				all = append(all, spot{i, p.Kind, false, p.Atom})
			}
		}
	}
	return all
}

func wrongArity(rules []api.Rule) []int {
	var at []int
	all := spots(rules)
	for i, s := range all {
		if slices.ContainsFunc(all[:i], func(ahead spot) bool {
			return ahead.atom.Name == s.atom.Name && len(ahead.atom.Args) != len(s.atom.Args)
		}) {
			at = append(at, s.atom.At)
		}
	}
	return at
}

func wrongSafe(rules []api.Rule) []int {
	var at []int
	for _, r := range rules {
		var positive, asked []api.Term
		asked = append(asked, r.Head.Args...)
		for _, p := range r.Body {
			if p.Kind == 0 {
				positive = append(positive, p.Atom.Args...)
			} else {
				asked = append(append(asked, p.Atom.Args...), p.Left, p.Right)
			}
		}
		for _, a := range asked {
			if a.Var && !slices.ContainsFunc(positive, func(p api.Term) bool { return p.Var && p.Text == a.Text }) {
				at = append(at, a.At)
			}
		}
	}
	return at
}

// pairs answers who hangs on whom, and on the way from the one to the other how
// often 'not' stands at the most (or some number above most, if that has no end).
func pairs(rules []api.Rule, most int) map[[2]string]int {
	far := map[[2]string]int{}
	for _, s := range spots(rules) {
		if !s.head {
			pair := [2]string{rules[s.rule].Head.Name, s.atom.Name}
			far[pair] = max(far[pair], s.kind)
		}
	}
	for grown := true; grown; {
		grown = false
		for ab, m := range far {
			for bc, n := range far {
				ac := [2]string{ab[0], bc[1]}
				old, known := far[ac]
				if ab[1] == bc[0] && (!known || old < m+n && old <= most) {
					far[ac], grown = m+n, true
				}
			}
		}
	}
	return far
}

func wrongStrata(rules []api.Rule) []int {
	far := pairs(rules, 0)
	var at []int
	for _, s := range spots(rules) {
		head := rules[s.rule].Head.Name
		_, hangs := far[[2]string{s.atom.Name, head}]
		if s.kind == 1 && (s.atom.Name == head || hangs) {
			at = append(at, s.atom.At)
		}
	}
	return at
}

func oracle(text string) answer {
	rules, errno, at := syntax.Parse(text)
	if errno != api.OK {
		return answer{errno, at}
	}
	for _, wrong := range []struct {
		errno api.Errno
		at    []int
	}{
		{api.ErrArity, wrongArity(rules)},
		{api.ErrSafe, wrongSafe(rules)},
		{api.ErrStrata, wrongStrata(rules)},
	} {
		if len(wrong.at) > 0 {
			return answer{wrong.errno, slices.Min(wrong.at)}
		}
	}
	return answer{}
}

// oracleLevels: a name stands as high as there are 'not's on a way down from it.
func oracleLevels(text string) []api.Level {
	rules, _, _ := syntax.Parse(text)
	numbers := map[string]int{}
	all := spots(rules)
	for _, s := range all {
		numbers[s.atom.Name] = 0
	}
	for pair, n := range pairs(rules, len(all)) {
		numbers[pair[0]] = max(numbers[pair[0]], n)
	}
	var levels []api.Level
	for name, n := range numbers {
		levels = append(levels, api.Level{Name: name, Number: n})
	}
	slices.SortFunc(levels, func(a, b api.Level) int { return strings.Compare(a.Name, b.Name) })
	return levels
}

// holdOracle holds both calls of a text against the oracle, and answers the error.
func holdOracle(t *testing.T, text string) api.Errno {
	t.Helper()
	got := checked(t, text)
	if want := oracle(text); got != want {
		t.Fatalf("Check(%q): %v, want %v", text, got, want)
	}
	if got.errno == api.OK {
		levels, _, _ := check.Levels(text)
		if want := oracleLevels(text); !slices.Equal(levels, want) {
			t.Fatalf("Levels(%q): %v, want %v", text, levels, want)
		}
	}
	return got.errno
}

// choose hands out all lists of n of the things.
func choose(things []string, n int) []string {
	if n == 0 {
		return []string{""}
	}
	var all []string
	for _, rest := range choose(things, n-1) {
		for _, thing := range things {
			all = append(all, rest+thing)
		}
	}
	return all
}

// All programs of up to three rules with one part each, of three names.
func TestAllSmallPrograms(t *testing.T) {
	var rules []string
	for _, head := range []string{"p", "q", "r"} {
		for _, body := range []string{"p", "q", "r", "not p", "not q", "not r"} {
			rules = append(rules, head+":-"+body+". ")
		}
	}
	for n := range 4 {
		for _, text := range choose(rules, n) {
			holdOracle(t, text)
		}
	}
}

// All rules of a head and up to three parts, of two variables.
func TestAllSmallRules(t *testing.T) {
	parts := []string{
		",q(X)", ",q(Y)", ",not q(X)", ",not q(Y)", ",X=Y", ",Y!=a", ",b<X", ",q(\"X\")", ",p(Y)", ",not p(X)", ",q", ",X<\"Y\"",
	}
	for _, head := range []string{"p(X)", "p(Y)", "p", "p(a)", "p(\"Y\")", "p(X,Y)"} {
		for n := 1; n < 4; n++ {
			for _, body := range choose(parts, n) {
				holdOracle(t, head+":-"+body[1:]+".")
			}
		}
	}
}

func TestRandomPrograms(t *testing.T) {
	random := rand.New(rand.NewSource(5))
	pick := func(things ...string) string { return things[random.Intn(len(things))] }
	seen := map[api.Errno]int{}
	for range 6000 {
		// Few names, terms and 'not's, or many of them.
		names := strings.Split("p q r s t u v w x y", " ")[:1+random.Intn(10)]
		rarely := 1 + random.Intn(12)
		term := func() string {
			if random.Intn(rarely*4) == 0 {
				return pick("Y", "\"X\"", "X1", "x")
			}
			return pick("X", "X", "Z")
		}
		atom := func() string {
			if random.Intn(rarely*20) == 0 {
				return pick(names...)
			}
			return pick(names...) + "(" + term() + ")"
		}
		var text strings.Builder
		for range random.Intn(8) {
			text.WriteString(atom() + pick(":-", " :- ", "\n:-% r(X), not p.\n") + "p(X),q(Z)")
			for range random.Intn(5) {
				text.WriteString(pick(",", " ,  ", ",\n"))
				switch {
				case random.Intn(rarely) == 0:
					text.WriteString("not " + atom())
				case random.Intn(8) == 0:
					text.WriteString(term() + pick("=", "!=", "<") + term())
				default:
					text.WriteString(atom())
				}
			}
			text.WriteString(pick(".", " . ", ".%\n"))
		}
		seen[holdOracle(t, text.String())]++
	}
	for _, errno := range []api.Errno{api.OK, api.ErrArity, api.ErrSafe, api.ErrStrata} {
		if seen[errno] < 100 {
			t.Errorf("only %d of %d programs with the error %d", seen[errno], 6000, errno)
		}
	}
}

// Of all numbers from 0 to 3 that would do, none is less than what Levels tells.
func TestNoNumberIsLess(t *testing.T) {
	var rules []string
	for _, head := range []string{"p", "q", "r"} {
		for _, body := range []string{"p", "q", "not p", "not q", "r,not p"} {
			rules = append(rules, head+":-"+body+". ")
		}
	}
	for _, text := range choose(append(rules, "p:-not r,q. "), 3) {
		text += "s:-p,q,r."
		levels, errno, _ := check.Levels(text)
		if errno != api.OK {
			continue
		}
		told := map[string]int{}
		for _, l := range levels {
			told[l.Name] = l.Number
		}
		rules, _, _ := syntax.Parse(text)
		if !wouldDo(rules, told) {
			t.Fatalf("%q: %v would not do", text, levels)
		}
		for n := range 256 {
			other := map[string]int{"p": n % 4, "q": n / 4 % 4, "r": n / 16 % 4, "s": n / 64}
			for name := range other {
				if other[name] < told[name] && wouldDo(rules, other) {
					t.Fatalf("%q: %v, but %v would do", text, levels, other)
				}
			}
		}
	}
}

// wouldDo tells whether each head stands as high above its body as it must.
func wouldDo(rules []api.Rule, numbers map[string]int) bool {
	for _, s := range spots(rules) {
		if !s.head && numbers[rules[s.rule].Head.Name] < numbers[s.atom.Name]+s.kind {
			return false
		}
	}
	return true
}
