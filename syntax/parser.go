package syntax

import (
	"deduce/api"
	"deduce/file"
	"deduce/kinds"
	"deduce/letters"
	"deduce/limits"
)

const negation = "not"

var signs = [...]string{kinds.Equal: "=", kinds.Differ: "!=", kinds.Less: "<"}

// parser reads what the grammar of doc/04-syntax.md names, each by a method of
// that name.
type parser struct {
	lexer
}

// read reads a whole text by one of the parser's methods.
func read[T any](text string, whole func(*parser) ([]T, error)) ([]T, error) {
	if len(text) > limits.MaxText {
		return nil, errLong
	}
	return whole(&parser{newLexer(text)})
}

// list reads one or more things by a method, most of them at the most: begins
// tells whether one begins there, goesOn whether another one must follow.
func list[T any](p *parser, most int, begins func(*parser) bool, one func(*parser) (T, error), goesOn func(*parser) bool) ([]T, error) {
	var things []T
	for {
		// What does not begin there is not one too many.
		if !begins(p) {
			return nil, p.fail(errText)
		}
		if len(things) == most {
			return nil, p.fail(errMany)
		}
		thing, err := one(p)
		if err != nil {
			return nil, err
		}
		things = append(things, thing)
		if !goesOn(p) {
			return things, nil
		}
	}
}

func (p *parser) program() ([]api.Rule, error) {
	if p.ended() {
		return nil, nil
	}
	return list(p, limits.MaxRules, (*parser).atName, (*parser).rule, (*parser).left)
}

func (p *parser) rule() (api.Rule, error) {
	head, err := p.atom()
	if err != nil {
		return api.Rule{}, err
	}
	rule := api.Rule{Head: head}
	if p.take(":-") {
		if rule.Body, err = p.parts(); err != nil {
			return api.Rule{}, err
		}
	}
	return rule, p.want(".")
}

func (p *parser) query() ([]api.Part, error) {
	parts, err := p.parts()
	if err != nil {
		return nil, err
	}
	if err := p.want("."); err != nil {
		return nil, err
	}
	if p.left() {
		return nil, p.fail(errText)
	}
	return parts, nil
}

func (p *parser) parts() ([]api.Part, error) {
	return list(p, limits.MaxParts, (*parser).atPart, (*parser).part, (*parser).comma)
}

func (p *parser) part() (api.Part, error) {
	if p.word() == negation {
		p.move(len(negation))
		atom, err := p.atom()
		return api.Part{Kind: kinds.Not, Atom: atom}, err
	}
	if p.atName() && !p.comparesName() {
		atom, err := p.atom()
		return api.Part{Kind: kinds.Atom, Atom: atom}, err
	}
	return p.comparison()
}

// comparesName tells whether the sign of a comparison follows the name that is
// next. A copy looks ahead, so that the parser itself stays where it is.
func (p *parser) comparesName() bool {
	ahead := *p
	ahead.move(len(ahead.word()))
	_, err := ahead.sign()
	return err == nil
}

func (p *parser) comparison() (api.Part, error) {
	left, err := p.term()
	if err != nil {
		return api.Part{}, err
	}
	kind, err := p.sign()
	if err != nil {
		return api.Part{}, err
	}
	right, err := p.term()
	return api.Part{Kind: kind, Left: left, Right: right}, err
}

// sign reads the sign of a comparison: the kind that it makes of its part.
func (p *parser) sign() (int, error) {
	for kind := kinds.Equal; kind < len(signs); kind++ {
		if p.take(signs[kind]) {
			return kind, nil
		}
	}
	return 0, p.fail(errText)
}

func (p *parser) atom() (api.Atom, error) {
	if !p.atName() {
		return api.Atom{}, p.fail(errText)
	}
	atom := api.Atom{Name: p.word(), At: p.at}
	p.move(len(atom.Name))
	if !p.take("(") {
		return atom, nil
	}
	args, err := list(p, limits.MaxArity, (*parser).atTerm, (*parser).term, (*parser).comma)
	if err != nil {
		return api.Atom{}, err
	}
	atom.Args = args
	return atom, p.want(")")
}

func (p *parser) term() (api.Term, error) {
	if !p.atTerm() {
		return api.Term{}, p.fail(errText)
	}
	at := p.at
	if p.begins(`"`) {
		text, err := p.quoted()
		return api.Term{Text: text, At: at}, err
	}
	word := p.word()
	p.move(len(word))
	return api.Term{Var: isVariable(word), Text: word, At: at}, nil
}

func (p *parser) comma() bool { return p.take(",") }

func (p *parser) atName() bool { return file.Name(p.word()) }

func (p *parser) atTerm() bool {
	word := p.word()
	return p.begins(`"`) || file.Name(word) || isVariable(word) || isDigits(word)
}

func (p *parser) atPart() bool { return p.word() == negation || p.atTerm() }

func isVariable(word string) bool {
	return word != "" && len(word) <= limits.MaxName && letters.Capital(word[0])
}

func isDigits(word string) bool {
	return word != "" && len(word) <= limits.MaxName && letters.All(word, letters.Digit)
}
