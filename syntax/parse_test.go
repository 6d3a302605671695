package syntax_test

import (
	"strings"
	"testing"

	"deduce/api"
	"deduce/syntax"
)

func TestBlanksAndRemarks(t *testing.T) {
	for _, text := range []string{"", " ", "\t", "\n", " \t\n\n", "%", "%%", "% p(", "%\n", " % a\n\t% \"b", "%\xff\x00"} {
		rules, errno, at := syntax.Parse(text)
		if len(rules) != 0 || errno != api.OK || at != 0 {
			t.Errorf("Parse(%q) = %v, %d, %d", text, rules, errno, at)
		}
		if got := asked(t, text); got != (answer{api.ErrText, len(text)}) {
			t.Errorf("Query(%q): %v", text, got)
		}
	}
	holdParse(t, []taken{
		{"p.%", api.OK, 0},
		{"p.% end", api.OK, 0},
		{"%p\np. % q\n", api.OK, 0},
		{"p % q", api.ErrText, 5},
		{"p % .\n", api.ErrText, 6},
		{"p % q\n !.", api.ErrText, 7},
		{"p\r.", api.ErrText, 1},
		{"\vp.", api.ErrText, 0},
		{"\xa0p.", api.ErrText, 0},
		{"p.\x00", api.ErrText, 2},
		{"% \r\np.", api.OK, 0},
		{`p("% a").`, api.OK, 0},
	})
}

func TestTextBound(t *testing.T) {
	const most = 20000
	blank := strings.Repeat(" ", most)
	holdParse(t, []taken{
		{blank, api.OK, 0},
		{blank + " ", api.ErrLong, 0},
		{blank[2:] + "p.", api.OK, 0},
		{blank[1:] + "p.", api.ErrLong, 0},
		{blank[1:] + "p", api.ErrText, most},
		{blank[1:] + "!", api.ErrText, most - 1},
		{"!" + blank, api.ErrLong, 0},
		{"%" + blank[1:], api.OK, 0},
		{"%" + blank, api.ErrLong, 0},
		{`p("` + blank[3:], api.ErrText, most},
		{strings.Repeat("a", most), api.ErrText, 0},
	})
	holdQuery(t, []taken{
		{blank, api.ErrText, most},
		{blank + " ", api.ErrLong, 0},
		{blank[2:] + "p.", api.OK, 0},
		{blank[1:] + "p.", api.ErrLong, 0},
	})
}

// standing has a beginning of a text, and the signs that may follow it.
type standing struct{ ahead, may string }

// places has each place of a rule. What is behind ":-" is one of a query, too.
func places() []standing {
	const term = "a X 7 \"s\""
	const part = term + " not"
	return []standing{
		{"", "a end"},
		{"p. ", "a end"},
		{"p ", "( :- ."},
		{"p(", term},
		{"p(a ", ", )"},
		{"p(a,", term},
		{"p(a)", ":- ."},
		{"p:-", part},
		{"p:-not ", "a"},
		{"p:-not q ", "( , ."},
		{"p:-not q(", term},
		{"p:-not q(a ", ", )"},
		{"p:-not q(a)", ", ."},
		{"p:-q ", "( = != < , ."},
		{"p:-q(", term},
		{"p:-q(\"\"", ", )"},
		{"p:-q(a,X)", ", ."},
		{"p:-X ", "= != <"},
		{"p:-7 ", "= != <"},
		{"p:-\"s\"", "= != <"},
		{"p:-X =", term},
		{"p:-q !=", term},
		{"p:-7 <", term},
		{"p:-X = a ", ", ."},
		{"p:-X < \"b\"", ", ."},
		{"p:-q,", part},
	}
}

// TestSigns: at each place of a text each sign, and the text's end.
func TestSigns(t *testing.T) {
	all := []string{
		"a", "X", "7", `"s"`, "not", "(", ")", ",", ".", ":-", "=", "!=", "<",
		"!", ":", "-", "_", "_a", "!(", ": -", "! =", ":=", "-:", "=!", ">", ";", "?", "'a'", "`", "\\", "\r", "\x00", "\x7f", "\x80", "\xff", "é", "/", "0x", "9a",
		strings.Repeat("a", 31), strings.Repeat("A", 31), strings.Repeat("1", 31),
	}
	// what a sign begins with that may stand there stands there, too
	begins := map[string]string{"=!": "="}
	for _, place := range places() {
		for _, sign := range all {
			kind := sign
			if begins[sign] != "" {
				kind = begins[sign]
			}
			holdSign(t, place, sign, kind)
		}
		holdEnd(t, place)
	}
}

func may(place standing, kind string) bool {
	for _, one := range strings.Fields(place.may) {
		if one == kind {
			return true
		}
	}
	return false
}

func holdSign(t *testing.T, place standing, sign, kind string) {
	t.Helper()
	want := answer{api.ErrText, len(place.ahead)}
	if may(place, kind) {
		want.at += len(kind)
	}
	if may(place, kind) && kind == "." {
		want = answer{}
	}
	if got := parsed(t, place.ahead+sign); got != want {
		t.Errorf("Parse(%q): %v, want %v", place.ahead+sign, got, want)
	}
	query, isQuery := strings.CutPrefix(place.ahead, "p:-")
	if want.errno != api.OK {
		want.at -= len("p:-")
	}
	if got := asked(t, query+sign); isQuery && got != want {
		t.Errorf("Query(%q): %v, want %v", query+sign, got, want)
	}
}

func holdEnd(t *testing.T, place standing) {
	t.Helper()
	for _, blank := range []string{"", " ", "\n%", "% a\n"} {
		text := place.ahead + blank
		want := answer{api.ErrText, len(text)}
		if may(place, "end") {
			want = answer{}
		}
		if got := parsed(t, text); got != want {
			t.Errorf("Parse(%q): %v, want %v", text, got, want)
		}
		if query, ok := strings.CutPrefix(text, "p:-"); ok {
			if got := asked(t, query); got != (answer{api.ErrText, len(query)}) {
				t.Errorf("Query(%q): %v", query, got)
			}
		}
	}
}

// TestSplitSigns: '!' and ':' without '=' and '-' right behind them, also where
// the text ends.
func TestSplitSigns(t *testing.T) {
	holdParse(t, []taken{
		{"p:", api.ErrText, 1},
		{"p :", api.ErrText, 2},
		{"p: -q.", api.ErrText, 1},
		{"p:%\n-q.", api.ErrText, 1},
		{"p:=q.", api.ErrText, 1},
		{"p(a)::-q.", api.ErrText, 4},
		{"p:-:-q.", api.ErrText, 3},
		{"p:-X!", api.ErrText, 4},
		{"p:-X! =Y.", api.ErrText, 4},
		{"p:-X!!=Y.", api.ErrText, 4},
		{"p:-q!.", api.ErrText, 4},
		{"p:-q !<a.", api.ErrText, 5},
		{"p:-X!=!=Y.", api.ErrText, 6},
		{"p:-X<=Y.", api.ErrText, 5},
		{"p:-X==Y.", api.ErrText, 5},
	})
	holdQuery(t, []taken{
		{"X!", api.ErrText, 1},
		{"p!", api.ErrText, 1},
		{"p:", api.ErrText, 1},
		{"p:-q.", api.ErrText, 1},
	})
}

func TestWords(t *testing.T) {
	long := func(first string, n int) string { return first + strings.Repeat("0", n-1) }
	holdParse(t, []taken{
		{long("a", 30) + ".", api.OK, 0},
		{long("a", 31) + ".", api.ErrText, 0},
		{long("a", 31), api.ErrText, 0},
		{"p(" + long("a", 30) + ").", api.OK, 0},
		{"p(" + long("a", 31) + ").", api.ErrText, 2},
		{"p(" + long("X", 30) + ").", api.OK, 0},
		{"p(" + long("X", 31) + ").", api.ErrText, 2},
		{"p(" + long("9", 30) + ").", api.OK, 0},
		{"p(" + long("9", 31) + ").", api.ErrText, 2},
		{"p :- not " + long("a", 31) + ".", api.ErrText, 9},
		{"p :- " + long("a", 31) + "(b).", api.ErrText, 5},
		{"p(a, 1a).", api.ErrText, 5},
		{"p(a, 1_).", api.ErrText, 5},
		{"p(a, 12345A", api.ErrText, 5},
		{"p(not).", api.ErrText, 2},
		{"p(a, not", api.ErrText, 5},
		{"not.", api.ErrText, 0},
		{"not(a).", api.ErrText, 0},
		{"not p :- q.", api.ErrText, 0},
		{"p. not q.", api.ErrText, 3},
		{"p(X) :- X = not.", api.ErrText, 12},
		{"p :- not = a.", api.ErrText, 9},
		{"p :- not not q.", api.ErrText, 9},
		{"p :- not X.", api.ErrText, 9},
		{"p :- not 1.", api.ErrText, 9},
		{"p :- not \"q\".", api.ErrText, 9},
		{"p :- not (q).", api.ErrText, 9},
		{"p :- not q = a.", api.ErrText, 11},
		{"p :- not", api.ErrText, 8},
		{"nota(not_, noT, nott) :- notx, not not1.", api.OK, 0},
		{"Not.", api.ErrText, 0},
		{"p(Not).", api.OK, 0},
		{"p(X_).", api.OK, 0},
		{"p(_X).", api.ErrText, 2},
		{"p(é).", api.ErrText, 2},
		{"pé.", api.ErrText, 1},
		{"p q.", api.ErrText, 2},
		{"p(a b).", api.ErrText, 4},
		{"p(a)b.", api.ErrText, 4},
		{"p(a\"b\").", api.ErrText, 3},
		{"p :- X Y.", api.ErrText, 7},
	})
}

func TestStrings(t *testing.T) {
	holdParse(t, []taken{
		{`p("").`, api.OK, 0},
		{`p("`, api.ErrText, 3},
		{`p("a`, api.ErrText, 4},
		{`p("a\`, api.ErrText, 5},
		{`p("a\"`, api.ErrText, 6},
		{`p("a\\"`, api.ErrText, 7},
		{`p("a\\").`, api.OK, 0},
		{`p("a\n").`, api.OK, 0},
		{`p("a\x").`, api.ErrText, 5},
		{`p("a\N").`, api.ErrText, 5},
		{`p("\t").`, api.ErrText, 4},
		{`p("\\\0").`, api.ErrText, 6},
		{"p(\"a\n\").", api.ErrText, 4},
		{"p(\"\n\").", api.ErrText, 3},
		{"p(\"a\\\n\").", api.ErrText, 5},
		{"p(\"\t\r\x00\xff %'é\").", api.OK, 0},
		{`"p".`, api.ErrText, 0},
		{`p :- "q"(a).`, api.ErrText, 8},
		{`p :- "q".`, api.ErrText, 8},
		{`p "`, api.ErrText, 2},
		{"p \"a\n", api.ErrText, 2},
	})
}

// TestLongStrings: a STRING is known to be too long when all of it has been
// read; where none may stand its first byte is refused ahead of that.
func TestLongStrings(t *testing.T) {
	a200 := strings.Repeat("a", 200)
	q200 := strings.Repeat(`\"`, 200)
	holdParse(t, []taken{
		{`p("` + a200 + `").`, api.OK, 0},
		{`p("` + a200 + `b").`, api.ErrLong, 2},
		{`p("` + a200 + `b"`, api.ErrLong, 2},
		{`p("` + a200 + `b" !`, api.ErrLong, 2},
		{`p("` + a200 + `b`, api.ErrText, 204},
		{`p("` + a200 + "b\n\").", api.ErrText, 204},
		{`p("` + a200 + `b\x").`, api.ErrText, 205},
		{`p("` + q200 + `").`, api.OK, 0},
		{`p("` + q200 + `\n").`, api.ErrLong, 2},
		{`p("` + strings.Repeat("é", 100) + `").`, api.OK, 0},
		{`p("` + strings.Repeat("é", 100) + `e").`, api.ErrLong, 2},
		{`p(a, X) :- q("", "` + a200 + `b").`, api.ErrLong, 17},
		{`p :- "` + a200 + `b" = X.`, api.ErrLong, 5},
		{`p :- X = "` + a200 + `b".`, api.ErrLong, 9},
		{`p "` + a200 + `b".`, api.ErrText, 2},
		{`p :- not "` + a200 + `b".`, api.ErrText, 9},
		{`"` + a200 + `b".`, api.ErrText, 0},
		{`p("` + a200 + `b"). !`, api.ErrLong, 2},
		{`! p("` + a200 + `b").`, api.ErrText, 0},
	})
	holdQuery(t, []taken{
		{`p("` + a200 + `").`, api.OK, 0},
		{`"` + a200 + `b" = X.`, api.ErrLong, 0},
		{`p(a, "` + a200 + `b").`, api.ErrLong, 5},
		{`p. "` + a200 + `b"`, api.ErrText, 3},
	})
}

// tooMany has what may stand where one more would be too many, or may not.
func tooMany(ahead string, term, not, rule api.Errno) []taken {
	const remark = " \n% remark\n\t"
	at := len(ahead)
	a31 := strings.Repeat("a", 31)
	return []taken{
		{ahead + "a", rule, at},
		{ahead + "a!", rule, at},
		{ahead + "a(", rule, at},
		{ahead + "X", term, at},
		{ahead + "X!", term, at},
		{ahead + "7", term, at},
		{ahead + `"`, term, at},
		{ahead + `""`, term, at},
		{ahead + "\"\n", term, at},
		{ahead + `"` + strings.Repeat("a", 201) + `"`, term, at},
		{ahead + "not", not, at},
		{ahead + "not !", not, at},
		{ahead + "not a", not, at},
		{ahead + a31, api.ErrText, at},
		{ahead + "7a", api.ErrText, at},
		{ahead + "_", api.ErrText, at},
		{ahead + ")", api.ErrText, at},
		{ahead + "!", api.ErrText, at},
		{ahead + "\x00", api.ErrText, at},
		{ahead + remark + "a", rule, at + len(remark)},
	}
}

func TestManyTerms(t *testing.T) {
	for _, begin := range []string{"p(", "p :- q(", "p :- q(a), not q("} {
		eight := begin + times(8, "a", ",")
		holdParse(t, []taken{
			{eight + ").", api.OK, 0},
			{eight + ",", api.ErrText, len(eight) + 1},
			{begin + times(8, `"x"`, " , ") + ").", api.OK, 0},
		})
		holdParse(t, tooMany(eight+",", api.ErrMany, api.ErrText, api.ErrMany))
		holdParse(t, tooMany(begin+times(8, "\"(,\"", ",")+", ", api.ErrMany, api.ErrText, api.ErrMany))
	}
	// each atom has its own
	all := "p(" + times(8, "X", ",") + ")"
	holdParse(t, []taken{{all + " :- " + times(12, all, ",") + "." + all + ".", api.OK, 0}})
	holdQuery(t, tooMany("p("+times(8, "a", ",")+",", api.ErrMany, api.ErrText, api.ErrMany))
	holdQuery(t, []taken{{"p(" + times(8, "a", ",") + ").", api.OK, 0}})
}

func TestManyParts(t *testing.T) {
	for _, part := range []string{"q", "q(a,b)", "not q", "X = \"a\"", "a<b"} {
		twelve := times(12, part, ", ")
		rule := "p :- " + twelve
		holdParse(t, []taken{
			{rule + ".", api.OK, 0},
			{rule + "." + rule + ".", api.OK, 0},
			{rule + ",", api.ErrText, len(rule) + 1},
			{rule + "!", api.ErrText, len(rule)},
		})
		holdQuery(t, []taken{
			{twelve + ".", api.OK, 0},
			{twelve + ",", api.ErrText, len(twelve) + 1},
			{twelve + ",.", api.ErrText, len(twelve) + 1},
		})
		holdParse(t, tooMany(rule+",", api.ErrMany, api.ErrMany, api.ErrMany))
		holdParse(t, tooMany("q."+rule+" , ", api.ErrMany, api.ErrMany, api.ErrMany))
		holdQuery(t, tooMany(twelve+",", api.ErrMany, api.ErrMany, api.ErrMany))
	}
}

func TestManyRules(t *testing.T) {
	for _, rule := range []string{"p.", "p(a) :- q, r.\n"} {
		all := strings.Repeat(rule, 200)
		holdParse(t, []taken{
			{all, api.OK, 0},
			{all + " % end", api.OK, 0},
			{all + ".", api.ErrText, len(all)},
		})
		holdParse(t, tooMany(all, api.ErrText, api.ErrText, api.ErrMany))
		holdParse(t, tooMany(all+" ", api.ErrText, api.ErrText, api.ErrMany))
	}
}

func TestQueryEnd(t *testing.T) {
	holdQuery(t, []taken{
		{"p.", api.OK, 0},
		{"p. % end", api.OK, 0},
		{"p. \n\t", api.OK, 0},
		{"p", api.ErrText, 1},
		{"p(a)", api.ErrText, 4},
		{"p, q", api.ErrText, 4},
		{"X = a", api.ErrText, 5},
		{"p..", api.ErrText, 2},
		{"p.p", api.ErrText, 2},
		{"p. q.", api.ErrText, 3},
		{"p. X", api.ErrText, 3},
		{"p. 1a", api.ErrText, 3},
		{"p. \"a", api.ErrText, 3},
		{"p. not", api.ErrText, 3},
		{"p.!", api.ErrText, 2},
		{"p.\x00", api.ErrText, 2},
		{".", api.ErrText, 0},
		{"p,.", api.ErrText, 2},
		{",p.", api.ErrText, 0},
	})
}

// hold holds one text against the table of signs.
func hold(t *testing.T, text string) {
	t.Helper()
	if got, want := parsed(t, text), expectedProgram(text); got != want {
		t.Errorf("Parse(%q): %v, want %v", text, got, want)
	}
	if got, want := asked(t, text), expectedQuery(text); got != want {
		t.Errorf("Query(%q): %v, want %v", text, got, want)
	}
}

// TestShortTexts: all texts of up to four of these pieces.
func TestShortTexts(t *testing.T) {
	pieces := []string{"p", "X", "7", "\"", "\\", "not ", "(", ")", ",", ".", ":-", ":", "=", "!", "<", " ", "\n", "%"}
	texts := []string{""}
	for range 4 {
		var longer []string
		for _, text := range texts {
			for _, piece := range pieces {
				longer = append(longer, text+piece)
			}
		}
		for _, text := range longer {
			hold(t, text)
		}
		texts = longer
	}
}

// TestDamagedTexts: texts that are taken, with one byte more, less or another.
func TestDamagedTexts(t *testing.T) {
	const bytes = "pX7_\"\\n(),.:-=!< \n\t%\x00\xff"
	for _, text := range append(programs(), queries()...) {
		hold(t, text)
		for i := range len(text) {
			hold(t, text[:i])
			hold(t, text[i:])
			hold(t, text[:i]+text[i+1:])
			for _, b := range []byte(bytes) {
				hold(t, text[:i]+string([]byte{b})+text[i:])
				hold(t, text[:i]+string([]byte{b})+text[i+1:])
			}
		}
	}
}

func TestTaken(t *testing.T) {
	for _, text := range programs() {
		if got := parsed(t, text); got != (answer{}) {
			t.Errorf("Parse(%q): %v", text, got)
		}
	}
	for _, text := range queries() {
		if got := asked(t, text); got != (answer{}) {
			t.Errorf("Query(%q): %v", text, got)
		}
	}
}
