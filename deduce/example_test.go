package deduce_test

import (
	"testing"

	"deduce/api"
	"deduce/deduce"
)

// What README.md and DOC.md show.
func TestExamples(t *testing.T) {
	program := `r(X,Y):-edge(X,Y). r(X,Z):-r(X,Y),edge(Y,Z). top(X):-edge(X,Y), not r(Y,X).`
	known := files(t, "edge/2: b c; a b")
	hold(t, []one{{program, "edge/2: b c; a b", "r/2 a,b; a,c; b,c;|top/1 a; b;"}})
	wrongRun(t, program, known, 6, api.ErrMany, 0)
	if _, errno, _ := deduce.Run(program, known, 7); errno != api.OK {
		t.Error(errno)
	}
	wrongRun(t, program, append(known, "REL1"), most, api.ErrData, 1)
	holdProofs(t, []asked{{program, "edge/2: b c; a b", "r(a, c).", `
r(a, c) by rule 2
  r(a, b) by rule 1
    edge(a, b) given
  edge(b, c) given
`}})
	wrongExplain(t, program, known, "r(c, a).", api.ErrNone, 0)
	wrongExplain(t, program, known, "r(a, X).", api.ErrText, 1000000)
	wrongRun(t, "q(X) :- n(X), not q(X).", nil, most, api.ErrStrata, 18)
}
