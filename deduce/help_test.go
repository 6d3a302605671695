package deduce_test

import (
	"slices"
	"strconv"
	"strings"
	"testing"

	"deduce/api"
	"deduce/deduce"
	"deduce/file"
	"deduce/wire"
)

const most = 100000

// reach has recursion, a rule behind 'not' and one behind that again.
const reach = "r(X,Y) :- e(X,Y). r(X,Z) :- r(X,Y), e(Y,Z). off(X) :- n(X), not r(X,X). on(X) :- n(X), not off(X)."

// given reads relations: `e/2: a b; b c | n/1: a | t/0: ;` where a row ends at
// ';'. One without ':' has no rows.
func given(text string) []api.Relation {
	var list []api.Relation
	for _, one := range strings.Split(text, "|") {
		if strings.TrimSpace(one) == "" {
			continue
		}
		head, body, _ := strings.Cut(one, ":")
		name, arity, _ := strings.Cut(strings.TrimSpace(head), "/")
		r := api.Relation{Name: name}
		r.Arity, _ = strconv.Atoi(arity)
		for _, row := range strings.SplitAfter(body, ";") {
			if strings.TrimSpace(row) != "" {
				r.Rows = append(r.Rows, strings.Fields(strings.TrimSuffix(row, ";")))
			}
		}
		list = append(list, r)
	}
	return list
}

// packed answers the files of relations.
func packed(t *testing.T, list ...api.Relation) []string {
	t.Helper()
	var files []string
	for _, r := range list {
		data, errno, at := file.Encode(r)
		if errno != api.OK {
			t.Fatalf("%s is no file: %d %d", r.Name, errno, at)
		}
		files = append(files, data)
	}
	return files
}

// files answers those of relations as given reads them.
func files(t *testing.T, text string) []string {
	t.Helper()
	return packed(t, given(text)...)
}

// told writes what files are as given reads it, with '|' between and no blanks
// about signs.
func told(t *testing.T, files []string) string {
	t.Helper()
	var relations []string
	for i, data := range files {
		r, errno, at := file.Decode(data)
		if errno != api.OK {
			t.Fatalf("file %d is none: %d %d", i, errno, at)
		}
		text := r.Name + "/" + strconv.Itoa(r.Arity)
		for _, row := range r.Rows {
			text += " " + strings.Join(row, ",") + ";"
		}
		relations = append(relations, text)
	}
	return strings.Join(relations, "|")
}

// run answers files that are wanted without an error.
func run(t *testing.T, program string, files []string) []string {
	t.Helper()
	answer, errno, at := deduce.Run(program, files, most)
	if errno != api.OK || at != 0 {
		t.Fatalf("Run(%q, %q): %d %d", program, files, errno, at)
	}
	return answer
}

func wrongRun(t *testing.T, program string, files []string, most int, errno api.Errno, at int) {
	t.Helper()
	answer, gotErrno, gotAt := deduce.Run(program, files, most)
	if answer != nil || gotErrno != errno || gotAt != at {
		t.Errorf("Run(%.200q, %.200q, %d): %.200q, %d, %d, want %d, %d", program, files, most, answer, gotErrno, gotAt, errno, at)
	}
}

func wrongExplain(t *testing.T, program string, files []string, fact string, errno api.Errno, at int) {
	t.Helper()
	proof, gotErrno, gotAt := deduce.Explain(program, files, fact)
	if proof != "" || gotErrno != errno || gotAt != at {
		t.Errorf("Explain(%.200q, %.200q, %.200q): %.200q, %d, %d, want %d, %d", program, files, fact, proof, gotErrno, gotAt, errno, at)
	}
}

// many answers rows of one text each that differ.
func many(n int) [][]string {
	var rows [][]string
	for i := range n {
		rows = append(rows, []string{strconv.Itoa(i)})
	}
	return rows
}

// wide answers a relation of n texts that have as many bytes as one may have, from
// a number on: some 320 of them are more than a file holds.
func wide(name string, from, n int) api.Relation {
	r := api.Relation{Name: name, Arity: 1}
	for i := range n {
		number := strconv.Itoa(from + i)
		r.Rows = append(r.Rows, []string{number + strings.Repeat("x", 200-len(number))})
	}
	return r
}

// damaged is a text that Decode refuses.
type damaged struct {
	name  string
	data  string
	errno api.Errno
}

// refused answers texts that Decode refuses, at least one with each error.
func refused(t *testing.T) []damaged {
	t.Helper()
	good := files(t, "e/2: a b; b c")[0]
	sealed := func(data string) string { return data + wire.Sum(data) }
	// The last page's sum stands ahead of the whole file's.
	otherSum := []byte(good[:len(good)-4])
	otherSum[len(otherSum)-1] ^= 1
	list := []damaged{
		{"nothing", "", api.ErrData},
		{"its last byte is missing", good[:len(good)-1], api.ErrData},
		{"a byte behind it", good + "\x00", api.ErrData},
		{"another beginning", sealed("REL2" + good[4:len(good)-4]), api.ErrData},
		{"no pages", sealed("REL1"), api.ErrData},
		{"a page less", sealed(good[:len(good)-15]), api.ErrData},
		{"a byte behind its pages", sealed(good[:len(good)-4] + "\x00"), api.ErrData},
		{"another sum of a page", sealed(string(otherSum)), api.ErrSum},
		{"too long", strings.Repeat("x", 65537), api.ErrLong},
	}
	var told []api.Errno
	for _, d := range list {
		_, errno, _ := file.Decode(d.data)
		if errno != d.errno {
			t.Fatalf("%s: Decode tells %d, not %d", d.name, errno, d.errno)
		}
		told = append(told, errno)
	}
	for _, errno := range []api.Errno{api.ErrLong, api.ErrData, api.ErrSum} {
		if !slices.Contains(told, errno) {
			t.Fatalf("no file with error %d", errno)
		}
	}
	// Its place is not 0, so that it cannot be taken for the file's number.
	if _, _, at := file.Decode(sealed(string(otherSum))); at < 10 {
		t.Fatalf("the place of another sum of a page is %d", at)
	}
	return list
}

// unfit has programs that Check refuses, with each of its errors.
func unfit() []string {
	return []string{
		"p", "p(a,).", "P.", "e(X", "p :- not not q.",
		"p(" + strings.Repeat("a,", 8) + "a).",
		"p(\"" + strings.Repeat("a", 201) + "\").",
		strings.Repeat("p.", 201),
		strings.Repeat(" ", 20001),
		"p(a). p(a,b).",
		"p(X) :- q(Y).", "p :- q(X), not r(Y).", "p(X,Y) :- q(X), Y = X.",
		"q(X) :- n(X), not q(X).", "p :- q. q :- not r. r :- p.",
	}
}
