package syntax

import (
	"strings"

	"deduce/api"
	"deduce/file"
	"deduce/kinds"
)

// printer writes rules and what they are made of, each by a method.
type printer struct {
	strings.Builder
}

// listed writes things by a method, with commas between.
func listed[T any](p *printer, things []T, one func(T)) {
	for i, thing := range things {
		if i > 0 {
			p.WriteString(", ")
		}
		one(thing)
	}
}

func (p *printer) rule(r api.Rule) {
	p.atom(r.Head)
	if len(r.Body) > 0 {
		p.WriteString(" :- ")
		listed(p, r.Body, p.part)
	}
	p.WriteString(".\n")
}

func (p *printer) part(part api.Part) {
	switch part.Kind {
	case kinds.Atom:
		p.atom(part.Atom)
	case kinds.Not:
		p.WriteString(negation + " ")
		p.atom(part.Atom)
	default:
		p.term(part.Left)
		p.WriteString(" " + signs[part.Kind] + " ")
		p.term(part.Right)
	}
}

func (p *printer) atom(a api.Atom) {
	p.WriteString(a.Name)
	if len(a.Args) > 0 {
		p.WriteString("(")
		listed(p, a.Args, p.term)
		p.WriteString(")")
	}
}

func (p *printer) term(t api.Term) {
	if t.Var {
		p.WriteString(t.Text)
		return
	}
	p.WriteString(Constant(t.Text))
}

// Constant writes a constant (D3).
func Constant(s string) string {
	if file.Name(s) || isDigits(s) {
		return s
	}
	escapes := strings.NewReplacer(`"`, `\"`, `\`, `\\`, "\n", `\n`)
	return `"` + escapes.Replace(s) + `"`
}
