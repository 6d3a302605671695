package deduce_test

import (
	"math/rand"
	"slices"
	"testing"

	"deduce/api"
	"deduce/deduce"
	"deduce/file"
)

func TestWhatIsHandedInStays(t *testing.T) {
	program := "e(X,Z) :- e(X,Y), e(Y,Z). n(X) :- e(X,X). p(X) :- n(X), not e(X,X)."
	known := files(t, "n/1: b; a | e/2: a b; a c; b c | x/1: z")
	kept := slices.Clone(known)
	answer := run(t, program, known)
	want := slices.Clone(answer)
	proof, errno, _ := deduce.Explain(program, known, "e(a, c).")
	if proof != "e(a, c) given\n" || errno != api.OK {
		t.Errorf("%q %d", proof, errno)
	}
	if !slices.Equal(known, kept) {
		t.Errorf("what was handed in is now %q", known)
	}
	// The answer has the file of e as it was handed in.
	if answer[0] != known[1] {
		t.Fatalf("%q", answer)
	}
	spoil(answer)
	if !slices.Equal(known, kept) {
		t.Error("writing into the answer changes what was handed in")
	}
	answer = run(t, program, known)
	spoil(known)
	if !slices.Equal(answer, want) {
		t.Error("writing into what was handed in changes the answer")
	}
}

// spoil writes over all texts of a list, and into what it has room for.
func spoil(list []string) {
	list = list[:cap(list)]
	for i := range list {
		list[i] = "spoiled"
	}
}

// What lies behind a list that is handed in stays as well.
func TestRoomBehindFilesStays(t *testing.T) {
	known := files(t, "e/2: a b | n/1: a | x/1: b")
	run(t, reach, known[:2])
	deduce.Explain(reach, known[:2], "r(a, b).")
	if got := told(t, known); got != "e/2 a,b;|n/1 a;|x/1 b;" {
		t.Error(got)
	}
}

// An answer hangs on what is handed in alone: the same one each time, whatever was
// asked between.
func TestSameAgain(t *testing.T) {
	program := reach + " a. b. c. d(x). d(y). f :- a. g :- b. h :- not f. i(X) :- d(X). j(X) :- i(X), not on(X)."
	known := files(t, "e/2: a b; b c; c d; d b; e f | n/1: a; b; x | d/1: z")
	want := run(t, program, known)
	proof, _, _ := deduce.Explain(program, known, "r(a, d).")
	for range 30 {
		deduce.Run("p(a).", nil, 1)
		deduce.Run(program, known, 3)
		if got := run(t, program, known); !slices.Equal(got, want) {
			t.Fatalf("%s, and then %s", told(t, want), told(t, got))
		}
		if got, _, _ := deduce.Explain(program, known, "r(a, d)."); got != proof {
			t.Fatalf("%s, and then %s", proof, got)
		}
	}
}

// Texts that were changed anywhere: none is taken for another one, and none panics.
func TestDamagedFiles(t *testing.T) {
	known := files(t, "n/1: a | e/2: a b; b c; \xff \x00")
	for at := range known[1] {
		for bit := range 8 {
			data := []byte(known[1])
			data[at] ^= 1 << bit
			_, errno, _ := file.Decode(string(data))
			if errno == api.OK {
				t.Fatalf("byte %d, bit %d: Decode takes it", at, bit)
			}
			wrongRun(t, reach, []string{known[0], string(data)}, most, errno, 1)
			wrongExplain(t, reach, []string{known[0], string(data)}, "n(a).", errno, 1)
		}
		wrongRun(t, reach, []string{known[0], known[1][:at]}, most, api.ErrData, 1)
	}
}

func TestAnyText(t *testing.T) {
	c := rand.New(rand.NewSource(3))
	known := files(t, "e/2: a b; b c | n/1: a")
	signs := []string{"p", "e", "n", "X", "Y", "a", "(", ")", ",", ".", ":-", "not ", "=", "!=", "<", "\"", "\\", "%", "\n", " ", "1", "\xff"}
	text := func() string {
		all := ""
		for range c.Intn(12) {
			all += signs[c.Intn(len(signs))]
		}
		return all
	}
	for range 30000 {
		program, fact := text(), text()
		answer, errno, at := deduce.Run(program, known, c.Intn(20))
		if errno != api.OK && answer != nil || errno == api.OK && at != 0 || at < 0 {
			t.Fatalf("Run(%q): %q %d %d", program, answer, errno, at)
		}
		proof, errno, at := deduce.Explain("r(X,Y) :- e(X,Y).", known, fact)
		if (errno == api.OK) == (proof == "") || errno == api.OK && at != 0 || at < 0 {
			t.Fatalf("Explain(%q): %q %d %d", fact, proof, errno, at)
		}
	}
}
