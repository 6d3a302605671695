package syntax_test

import (
	"regexp"
	"strings"

	"deduce/api"
)

// What the tests hold Parse and Query against: a table of which sign may follow
// which, and the signs told apart by patterns.

type sign struct {
	kind  string // "name", "var", "digits", "string", "not", "end", "bad" or the sign itself
	bytes int
}

var (
	blanks  = regexp.MustCompile(`^(?:[ \t\n]|%[^\n]*)*`)
	name    = regexp.MustCompile(`^[a-z][a-zA-Z0-9_]{0,29}$`)
	capital = regexp.MustCompile(`^[A-Z][a-zA-Z0-9_]{0,29}$`)
	digits  = regexp.MustCompile(`^[0-9]{1,30}$`)
	word    = regexp.MustCompile(`^[a-zA-Z0-9][a-zA-Z0-9_]*`)
	other   = regexp.MustCompile(`^(?:[(),.=<]|:-|!=)`)
	inside  = regexp.MustCompile(`^"(?:[^"\\\n]|\\["\\n])*`)
)

func wordKind(w string) string {
	switch {
	case w == "not":
		return "not"
	case name.MatchString(w):
		return "name"
	case capital.MatchString(w):
		return "var"
	case digits.MatchString(w):
		return "digits"
	}
	return "bad"
}

// nextSign looks at what a text begins with; of a STRING at the '"' alone.
func nextSign(text string) sign {
	if text == "" {
		return sign{"end", 0}
	}
	if w := word.FindString(text); w != "" {
		return sign{wordKind(w), len(w)}
	}
	if s := other.FindString(text); s != "" {
		return sign{s, len(s)}
	}
	if text[0] == '"' {
		return sign{"string", 1}
	}
	return sign{"bad", 0}
}

// stringSign tells how many bytes a STRING has, or what is wrong with it and
// where; the place is from its own first byte on.
func stringSign(text string) (int, answer) {
	in := inside.FindString(text)
	rest := text[len(in):]
	switch {
	case strings.HasPrefix(rest, `\`):
		return 0, answer{api.ErrText, len(in) + 1}
	case !strings.HasPrefix(rest, `"`):
		return 0, answer{api.ErrText, len(in)}
	}
	stands := strings.NewReplacer(`\\`, "b", `\"`, "q", `\n`, "l").Replace(in[1:])
	if len(stands) > 200 {
		return 0, answer{api.ErrLong, 0}
	}
	return len(in) + 1, answer{}
}

const (
	terms  = "name var digits string"
	signs  = "= != <"
	nowhat = ""
)

// follow tells by each state which signs lead where. What is behind a '.', in
// the state "stop", is another one in a program than in a query.
var follow = map[string]map[string]string{
	"rule":     {"name": "head", "end": "done"},
	"head":     {"(": "headTerm", ":-": "part", ".": "stop"},
	"headTerm": {terms: "headNext"},
	"headNext": {",": "headTerm", ")": "headDone"},
	"headDone": {":-": "part", ".": "stop"},
	"part":     {"not": "negated", "name": "named", "var digits string": "compared"},
	"negated":  {"name": "refused"},
	"refused":  {"(": "term", ",": "part", ".": "stop"},
	"named":    {"(": "term", signs: "right", ",": "part", ".": "stop"},
	"term":     {terms: "next"},
	"next":     {",": "term", ")": "partDone"},
	"compared": {signs: "right"},
	"right":    {terms: "partDone"},
	"partDone": {",": "part", ".": "stop"},
	"queried":  {"end": "done"},
}

func step(state, kind string) string {
	for kinds, to := range follow[state] {
		for _, k := range strings.Fields(kinds) {
			if k == kind {
				return to
			}
		}
	}
	return nowhat
}

// counter counts the terms, parts and rules that have begun.
type counter map[string]int

// add tells whether what begins in a state is one too many.
func (c counter) add(state string) bool {
	switch state {
	case "rule":
		c["rules"]++
		c["parts"], c["terms"] = 0, 0
		return c["rules"] > 200
	case "part":
		c["parts"]++
		c["terms"] = 0
		return c["parts"] > 12
	case "term", "headTerm":
		c["terms"]++
		return c["terms"] > 8
	}
	return false
}

// expected tells how a program, or a query, must be taken.
func expected(text, start, behindStop string) answer {
	if len(text) > 20000 {
		return answer{api.ErrLong, 0}
	}
	state, at, count := start, 0, counter{}
	for {
		at += len(blanks.FindString(text[at:]))
		s := nextSign(text[at:])
		to := step(state, s.kind)
		switch {
		case to == nowhat:
			return answer{api.ErrText, at}
		case to == "done":
			return answer{}
		case count.add(state):
			return answer{api.ErrMany, at}
		case to == "stop":
			to = behindStop
		}
		if s.kind == "string" {
			n, wrong := stringSign(text[at:])
			if wrong.errno != api.OK {
				return answer{wrong.errno, at + wrong.at}
			}
			s.bytes = n
		}
		state, at = to, at+s.bytes
	}
}

func expectedProgram(text string) answer { return expected(text, "rule", "rule") }

func expectedQuery(text string) answer { return expected(text, "part", "queried") }
