package deduce_test

import (
	"math/rand"
	"slices"
	"strings"
	"testing"

	"deduce/api"
	"deduce/check"
	"deduce/deduce"
	"deduce/file"
	"deduce/syntax"
)

// world is rules, with a blank between any two signs, and what files are.
type world struct {
	rules []string
	files string
}

func worlds() []world {
	return []world{
		{nil, ""},
		{nil, "e/2: a b | n/1: a"},
		{[]string{"p ( a ) .", "p ( \"%,.:-(\" ) .", "q ( X ) :- p ( X ) ."}, ""},
		{
			[]string{
				"r ( X , Y ) :- e ( X , Y ) .", "r ( X , Z ) :- r ( X , Y ) , e ( Y , Z ) .",
				"off ( X ) :- n ( X ) , not r ( X , X ) .", "on ( X ) :- n ( X ) , not off ( X ) .",
			},
			"e/2: a b; b c; c b; d a | n/1: a; b; c; d; x | x/2: a b",
		},
		// Names that hang on each other, and on what is behind two 'not'.
		{
			[]string{
				"odd ( X , Y ) :- e ( X , Y ) .", "odd ( X , Z ) :- even ( X , Y ) , e ( Y , Z ) .", "even ( X , Z ) :- odd ( X , Y ) , e ( Y , Z ) .",
				"all :- not some .", "some :- n ( X ) , not odd ( X , X ) .", "none :- not all , not some .",
			},
			"e/2: a b; b c; c a; c d | n/1: a; b",
		},
		// Names of heads that are given as well, one of which is told of itself.
		{
			[]string{
				"e ( Y , X ) :- e ( X , Y ) .", "m ( X ) :- n ( X ) , X < c .", "k ( X ) :- m ( X ) , not n ( X ) .",
				"n ( X ) :- e ( X , X ) .", "t :- k ( X ) , X != a .",
			},
			"e/2: a b; c c; d a | m/1: z; a | k/1: y | n/1: b | t/0",
		},
	}
}

// sewn writes rules with a text of its own choice between any two signs.
func sewn(rules []string, between func() string) string {
	var text strings.Builder
	for _, rule := range rules {
		for _, sign := range strings.Fields(rule) {
			text.WriteString(sign)
			gap := between()
			if sign == "not" && gap == "" {
				gap = " "
			}
			text.WriteString(gap)
		}
	}
	return text.String()
}

// layouts answers one program, written in several ways.
func layouts(t *testing.T, rules []string) []string {
	t.Helper()
	gaps := []string{"", " ", "\n\n", "\t", "%\n", " % q(X) :- not q(X).\n", "%\"\n \t"}
	next := 0
	mixed := func() string {
		next++
		return gaps[next*next%len(gaps)]
	}
	tight := sewn(rules, func() string { return "" })
	printed, errno, at := syntax.Print(tight)
	if errno != api.OK {
		t.Fatalf("Print(%q): %d %d", tight, errno, at)
	}
	list := []string{tight, printed, "% p.\n" + printed + "% q(a,).", sewn(rules, mixed), "\n \t" + strings.ReplaceAll(printed, "\n", "\n\n")}
	for _, gap := range gaps {
		list = append(list, sewn(rules, func() string { return gap }))
	}
	// Other names of variables are another way to write it, too.
	return append(list, strings.NewReplacer("X", "V_1", "Y", "X", "Z", "Long0").Replace(printed))
}

// shuffled answers a list in another order, the same one each time.
func shuffled[T any](list []T, seed int64) []T {
	list = slices.Clone(list)
	rand.New(rand.NewSource(seed)).Shuffle(len(list), func(i, j int) { list[i], list[j] = list[j], list[i] })
	return list
}

func TestHoweverItIsWritten(t *testing.T) {
	for _, w := range worlds() {
		known := files(t, w.files)
		texts := layouts(t, w.rules)
		want := run(t, texts[0], known)
		for seed := range int64(20) {
			for _, text := range layouts(t, shuffled(w.rules, seed)) {
				if got := run(t, text, shuffled(known, seed+100)); !slices.Equal(got, want) {
					t.Fatalf("Run(%q): %s, want %s", text, told(t, got), told(t, want))
				}
			}
		}
	}
}

// Of one order of the rules there is one proof.
func TestProofsHoweverItIsWritten(t *testing.T) {
	w := worlds()[3]
	known := files(t, w.files)
	for _, fact := range []string{"r(d, c).", "on(b).", "off(x).", "e(c, b).", "x(a, b)."} {
		texts := layouts(t, w.rules)
		want, errno, at := deduce.Explain(texts[0], known, fact)
		if want == "" || errno != api.OK || at != 0 {
			t.Fatalf("Explain(%s): %d %d", fact, errno, at)
		}
		for i, text := range texts {
			got, errno, at := deduce.Explain(text, shuffled(known, int64(i)), " "+fact+"% why?")
			if got != want || errno != api.OK || at != 0 {
				t.Errorf("Explain(%q, %s): %s%d %d, want %s", text, fact, got, errno, at, want)
			}
		}
	}
}

// replaced answers files with those of an answer in the place of the ones of their
// names, and behind them where there are none.
func replaced(t *testing.T, known, answer []string) []string {
	t.Helper()
	known = slices.Clone(known)
	for _, data := range answer {
		at := slices.IndexFunc(known, func(other string) bool { return nameOf(t, other) == nameOf(t, data) })
		if at < 0 {
			known = append(known, data)
			continue
		}
		known[at] = data
	}
	return known
}

func nameOf(t *testing.T, data string) string {
	t.Helper()
	r, errno, at := file.Decode(data)
	if errno != api.OK {
		t.Fatalf("no file: %d %d", errno, at)
	}
	return r.Name
}

func TestAgainFromItsOwnAnswer(t *testing.T) {
	for _, w := range worlds() {
		text := strings.Join(w.rules, " ")
		known := files(t, w.files)
		want := run(t, text, known)
		again := replaced(t, known, want)
		if got := run(t, text, again); !slices.Equal(got, want) {
			t.Errorf("Run(%q) again: %s, want %s", text, told(t, got), told(t, want))
		}
		slices.Reverse(again)
		if got := run(t, text, again); !slices.Equal(got, want) {
			t.Errorf("Run(%q) again, in another order: %s, want %s", text, told(t, got), told(t, want))
		}
	}
}

// With its own answer the bound on facts is the same, too.
func TestAgainWithTheSameMost(t *testing.T) {
	known := files(t, "e/2: a b; b c | n/1: a")
	again := replaced(t, known, run(t, reach, known))
	for _, known := range [][]string{known, again} {
		wrongRun(t, reach, known, 6, api.ErrMany, 0)
		if got, errno, at := deduce.Run(reach, known, 7); told(t, got) != "off/1 a;|on/1|r/2 a,b; a,c; b,c;" || errno != api.OK || at != 0 {
			t.Errorf("%q %d %d", got, errno, at)
		}
	}
}

// chance makes worlds out of few rules and texts.
type chance struct{ *rand.Rand }

func (c chance) rules() []string {
	list := []string{
		"r ( X , Y ) :- e ( X , Y ) .", "r ( X , Z ) :- r ( X , Y ) , r ( Y , Z ) .", "r ( Y , X ) :- r ( X , Y ) , r ( Y , Y ) .",
		"s ( X , Z ) :- r ( X , Y ) , s ( Y , Z ) , X != Z .", "s ( X , Y ) :- r ( Y , X ) , X < Y .", "r ( X , Y ) :- s ( X , Y ) , s ( Y , X ) .",
		"m ( X ) :- e ( X , Y ) , not s ( X , Y ) .", "k ( X , Y ) :- m ( X ) , m ( Y ) , not r ( X , Y ) .", "k ( X , Z ) :- k ( X , Y ) , k ( Y , Z ) .",
		"e ( X , Y ) :- f ( Y , X ) .", "f ( X , a ) :- f ( a , X ) .", "e ( X , X ) :- m ( X ) .", "t :- k ( X , X ) , not u .", "u :- m ( \"b\" ) , not k ( a , b ) .",
		"m ( c ) .", "s ( a , \"\" ) .",
	}
	return shuffled(list, c.Int63())[:c.Intn(len(list)+1)]
}

func (c chance) relations() []api.Relation {
	var list []api.Relation
	for _, r := range given("e/2 | f/2 | k/2 | m/1 | r/2 | s/2 | t/0 | u/0 | other/3") {
		if c.Intn(3) == 0 {
			continue
		}
		for range c.Intn(5) {
			row := []string{}
			for range r.Arity {
				row = append(row, []string{"a", "b", "c", "d", ""}[c.Intn(5)])
			}
			r.Rows = append(r.Rows, row)
		}
		list = append(list, r)
	}
	return shuffled(list, c.Int63())
}

func TestRandomWorlds(t *testing.T) {
	c := chance{rand.New(rand.NewSource(10))}
	held := 0
	for range 3000 {
		rules := c.rules()
		text := strings.Join(rules, " ")
		if errno, _ := check.Check(text); errno != api.OK {
			continue
		}
		held++
		known := packed(t, c.relations()...)
		want := run(t, text, known)
		otherwise := shuffled(layouts(t, shuffled(rules, c.Int63())), c.Int63())[0]
		if got := run(t, otherwise, shuffled(known, c.Int63())); !slices.Equal(got, want) {
			t.Fatalf("Run(%q): %s; Run(%q): %s", text, told(t, want), otherwise, told(t, got))
		}
		again := shuffled(replaced(t, known, want), c.Int63())
		if got := run(t, otherwise, again); !slices.Equal(got, want) {
			t.Fatalf("Run(%q, %s): %s, want %s", otherwise, told(t, again), told(t, got), told(t, want))
		}
	}
	if held < 1000 {
		t.Errorf("%d programs", held)
	}
}
