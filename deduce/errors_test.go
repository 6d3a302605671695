package deduce_test

import (
	"math"
	"slices"
	"testing"

	"deduce/api"
	"deduce/check"
	"deduce/deduce"
)

func TestMostOutOfBounds(t *testing.T) {
	for _, most := range []int{-1, 100001, math.MinInt, math.MaxInt} {
		wrongRun(t, "", nil, most, api.ErrRange, 0)
		wrongRun(t, reach, files(t, "e/2: a b"), most, api.ErrRange, 0)
		// Ahead of the errors of a program, of files, of relations, and of the answer.
		wrongRun(t, "  p(", nil, most, api.ErrRange, 0)
		wrongRun(t, reach, []string{files(t, "e/2")[0], ""}, most, api.ErrRange, 0)
		wrongRun(t, reach, files(t, "n/1 | n/1"), most, api.ErrRange, 0)
		wrongRun(t, "p(X,Y) :- n(X), n(Y).", packed(t, api.Relation{Name: "n", Arity: 1, Rows: many(45)}), most, api.ErrRange, 0)
	}
}

func TestMostAtItsBounds(t *testing.T) {
	for _, most := range []int{0, 1, 99999, 100000} {
		answer, errno, at := deduce.Run("p(X) :- q(X).", files(t, "q/1"), most)
		if got := told(t, answer); got != "p/1" || errno != api.OK || at != 0 {
			t.Errorf("%d: %s %d %d", most, got, errno, at)
		}
	}
}

// The errors of Check, with their places, come ahead of those of files.
func TestCheckErrors(t *testing.T) {
	bad := []string{"", "", ""}
	for _, program := range unfit() {
		errno, at := check.Check(program)
		if errno == api.OK {
			t.Fatalf("%q has no error", program)
		}
		for _, known := range [][]string{nil, bad, files(t, "p/1: a | n/1: a"), files(t, "p/3 | p/3"), {files(t, "e/2")[0], "REL1"}} {
			wrongRun(t, program, known, most, errno, at)
			wrongRun(t, program, known, 0, errno, at)
			for _, fact := range []string{"p(a).", "p(", "p, p.", "p(X).", ""} {
				wrongExplain(t, program, known, fact, errno, at)
			}
		}
	}
	wrongRun(t, "q(X) :- n(X), not q(X).", bad, most, api.ErrStrata, 18)
	wrongExplain(t, "q(X) :- n(X), not q(X).", bad, "q(", api.ErrStrata, 18)
}

// A file's error has its number, whatever place Decode tells; of several it is the
// first one's.
func TestRefusedFiles(t *testing.T) {
	good := files(t, "e/2: a b | n/1: a | x/3")
	for _, d := range refused(t) {
		for at := range len(good) + 1 {
			known := slices.Insert(slices.Clone(good), at, d.data)
			for _, program := range []string{"", reach, "p."} {
				wrongRun(t, program, known, most, d.errno, at)
				wrongExplain(t, program, known, "e(a, b).", d.errno, at)
				// Ahead of those of the facts that are too many, and of the fact's text.
				wrongRun(t, program, known, 0, d.errno, at)
				wrongExplain(t, program, known, "e(", d.errno, at)
				wrongExplain(t, program, known, "e(X, Y).", d.errno, at)
			}
			// Ahead of those of relations, wherever these stand.
			wrongRun(t, "e(a).", known, most, d.errno, at)
			wrongExplain(t, "e(a).", known, "e(a).", d.errno, at)
			twice := slices.Concat(good[:1], known)
			wrongRun(t, reach, twice, most, d.errno, at+1)
			wrongExplain(t, reach, twice, "e(a, b).", d.errno, at+1)
		}
		for _, later := range refused(t) {
			known := []string{good[0], d.data, good[1], later.data}
			wrongRun(t, reach, known, most, d.errno, 1)
			wrongExplain(t, reach, known, "e(a, b).", d.errno, 1)
		}
	}
}

// The errors of relations have the numbers of their files.
func TestModelErrors(t *testing.T) {
	for _, c := range []struct {
		files string
		errno api.Errno
		at    int
	}{
		{"e/2: a b | e/2: b c", api.ErrTwice, 1},
		{"e/2: a b | e/2: a b", api.ErrTwice, 1},
		{"x/1: a | n/1: a | y/0 | x/1: a | n/1", api.ErrTwice, 3},
		{"x/1: a | x/2: a b", api.ErrTwice, 1},
		{"r/1: a", api.ErrArity, 0},
		{"x/1 | n/1 | e/3: a b c", api.ErrArity, 2},
		{"off/0: ;", api.ErrArity, 0},
		// Of two the first one, and of one file the one that is named first.
		{"n/1 | n/2: a b", api.ErrTwice, 1},
		{"n/2: a b | n/1", api.ErrArity, 0},
		{"n/1 | e/2 | e/2 | r/5", api.ErrTwice, 2},
		{"n/1 | e/2 | r/5 | e/2", api.ErrArity, 2},
	} {
		for _, most := range []int{0, most} {
			wrongRun(t, reach, files(t, c.files), most, c.errno, c.at)
		}
		wrongExplain(t, reach, files(t, c.files), "e(a, b).", c.errno, c.at)
		// The fact's text is looked at ahead of relations.
		wrongExplain(t, reach, files(t, c.files), "e(a, b", api.ErrText, 1000006)
		wrongExplain(t, reach, files(t, c.files), "e(a, B).", api.ErrText, 1000000)
	}
}

// Facts of files that no rule tells of count too.
func TestTooMany(t *testing.T) {
	known := files(t, "e/2: a b; b c; c d | n/1: a; b | x/1: y")
	whole := run(t, reach, known)
	n := 3 + 2 + 1 + 6 + 2
	for most := range n + 2 {
		if most < n {
			wrongRun(t, reach, known, most, api.ErrMany, 0)
			continue
		}
		answer, errno, at := deduce.Run(reach, known, most)
		if !slices.Equal(answer, whole) || errno != api.OK || at != 0 {
			t.Errorf("%d: %q %d %d", most, answer, errno, at)
		}
	}
}

// A relation that is no file: of several the one with the least name.
func TestAnswersThatAreNoFiles(t *testing.T) {
	known := packed(t,
		api.Relation{Name: "n", Arity: 1, Rows: many(45)},
		api.Relation{Name: "m", Arity: 1, Rows: many(2000)},
		wide("v", 100, 200), wide("w", 300, 200))
	rows := func(name string) string { return name + "(X,Y) :- n(X), n(Y). " }
	bytes := func(name string) string { return name + "(X) :- v(X). " + name + "(X) :- w(X). " }
	both := func(name string) string { return name + "(X,Y) :- v(X), n(Y). " }
	// 2000 rows and one; more than a file's rows and bytes at once is ErrMany.
	wrongRun(t, "m(more).", known, most, api.ErrMany, 0)
	wrongRun(t, rows("p"), known, most, api.ErrMany, 0)
	wrongRun(t, bytes("p"), known, most, api.ErrLong, 0)
	wrongRun(t, both("p"), known, most, api.ErrMany, 0)
	// What is told where two are refused hangs on their names alone.
	wrongRun(t, rows("a")+bytes("b"), known, most, api.ErrMany, 0)
	wrongRun(t, bytes("b")+rows("a"), known, most, api.ErrMany, 0)
	wrongRun(t, rows("b")+bytes("a"), known, most, api.ErrLong, 0)
	wrongRun(t, bytes("a")+rows("b"), known, most, api.ErrLong, 0)
	wrongRun(t, "a. z. "+bytes("y")+"x. "+rows("b"), known, most, api.ErrMany, 0)
	// Behind the model's own error.
	wrongRun(t, bytes("a"), known, 0, api.ErrMany, 0)
	// Explain writes no files.
	want := "p(1, 44) by rule 1\n  n(1) given\n  n(44) given\n"
	if proof, errno, at := deduce.Explain(rows("p"), known, "p(1, 44)."); proof != want || errno != api.OK || at != 0 {
		t.Errorf("%q %d %d", proof, errno, at)
	}
}

// fault is an error, and what has it.
type fault struct {
	errno api.Errno
	at    int
	make  func(c *called)
}

// called is what a call is given.
type called struct {
	program, fact string
	files         []string
	most          int
}

func sound(t *testing.T) called {
	return called{reach, "r(a, c).", files(t, "e/2: a b; b c | n/1: a"), most}
}

// eachSet makes calls with each set of faults, and hands on the first of the set.
// The first faults are made last, as one may write over another.
func eachSet(t *testing.T, faults []fault, call func(called, fault)) {
	for set := 1; set < 1<<len(faults); set++ {
		c := sound(t)
		var first fault
		for i, f := range slices.Backward(faults) {
			if set>>i&1 == 1 {
				f.make(&c)
				first = f
			}
		}
		call(c, first)
	}
}

func broken() fault {
	return fault{api.ErrSafe, 2, func(c *called) { c.program = "s(X) :- n(Y). " + c.program }}
}

func noFile() fault {
	return fault{api.ErrData, 2, func(c *called) { c.files = slices.Insert(c.files, 2, "REL1") }}
}

func twice() fault {
	return fault{api.ErrTwice, 1, func(c *called) { c.files = slices.Insert(c.files, 1, c.files[0]) }}
}

// Where several errors apply the one that is named first is told.
func TestWhichErrorOfRun(t *testing.T) {
	eachSet(t, []fault{
		{api.ErrRange, 0, func(c *called) { c.most = -1 }},
		broken(), noFile(), twice(),
		{api.ErrMany, 0, func(c *called) { c.most = 5 }},
		{api.ErrLong, 0, func(c *called) {
			c.program += " big(X) :- v(X). big(X) :- w(X)."
			c.files = append(c.files, packed(t, wide("v", 100, 200), wide("w", 300, 200))...)
		}},
	}, func(c called, f fault) {
		wrongRun(t, c.program, c.files, c.most, f.errno, f.at)
	})
}

func TestWhichErrorOfExplain(t *testing.T) {
	eachSet(t, []fault{
		broken(), noFile(),
		{api.ErrText, 1000004, func(c *called) { c.fact = "r(a)" }},
		{api.ErrText, 1000000, func(c *called) { c.fact = "r(a, X)." }},
		twice(),
		{api.ErrMany, 0, func(c *called) {
			c.program += " big(X,Y) :- m(X), m(Y)."
			c.files = append(c.files, packed(t, api.Relation{Name: "m", Arity: 1, Rows: many(400)})...)
		}},
		{api.ErrNone, 0, func(c *called) { c.fact = "r(c, a)." }},
	}, func(c called, f fault) {
		wrongExplain(t, c.program, c.files, c.fact, f.errno, f.at)
	})
}
