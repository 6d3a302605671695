package why

import (
	"slices"
	"strconv"
	"strings"

	"deduce/facts"
	"deduce/model"
	"deduce/syntax"
)

// indent is what a line has ahead of it for each fact within whose proof it stands.
const indent = "  "

// fact is one of the model's.
type fact struct {
	name  string
	arity int
	row   facts.Row
}

// proof writes lines. What is still to be written is closures in a list, the next
// one last: one writes a fact's line, and lays down those of what stands beneath it.
// So a proof may be as deep as it is.
type proof struct {
	causes
	lines strings.Builder
	ahead map[fact]struct{} // that have lines
	left  []func()
}

func newProof(m *model.Model) *proof {
	return &proof{causes: newCauses(m), ahead: map[fact]struct{}{}}
}

// of answers all lines of a fact's proof.
func (p *proof) of(f fact) string {
	p.left = append(p.left, p.line(f, 0))
	for len(p.left) > 0 {
		last := len(p.left) - 1
		next := p.left[last]
		p.left = p.left[:last]
		next()
	}
	return p.lines.String()
}

// line answers the closure that writes the line of a fact that stands within so
// many others' proofs.
func (p *proof) line(f fact, depth int) func() {
	return func() {
		for range depth {
			p.lines.WriteString(indent)
		}
		p.lines.WriteString(p.atom(f))
		p.lines.WriteString(p.reason(f, depth))
		p.lines.WriteByte('\n')
	}
}

// reason answers what is told of a fact, and lays down what stands beneath it.
func (p *proof) reason(f fact, depth int) string {
	round := p.round(f)
	if round == 0 {
		return " given"
	}
	if _, told := p.ahead[f]; told {
		return " as above"
	}
	p.ahead[f] = struct{}{}
	number, beneath := p.cause(f, round)
	for _, one := range slices.Backward(beneath) {
		p.left = append(p.left, p.line(one, depth+1))
	}
	return " by rule " + strconv.Itoa(number)
}

// atom writes a fact as an atom.
func (p *proof) atom(f fact) string {
	if f.arity == 0 {
		return f.name
	}
	texts := p.model.TextsOf(f.row[:f.arity])
	for i, text := range texts {
		texts[i] = syntax.Constant(text)
	}
	return f.name + "(" + strings.Join(texts, ", ") + ")"
}
