package check

import (
	"deduce/api"
	"deduce/kinds"
	"deduce/walk"
)

// least answers each name's least number. It ends since the rules were checked:
// where a name hangs on its own opposite no numbers would do.
func least(rules []api.Rule) map[string]int {
	numbers := map[string]int{}
	for atom := range walk.Each(rules, walk.Atoms) {
		numbers[atom.Name] = 0
	}
	for raise(numbers, rules) {
	}
	return numbers
}

// raise lifts each head that stands too low, and tells whether one did.
func raise(numbers map[string]int, rules []api.Rule) bool {
	raised := false
	for _, rule := range rules {
		head := rule.Head.Name
		for kind, atom := range walk.Body(rule) {
			if bound := numbers[atom.Name] + step(kind); numbers[head] < bound {
				numbers[head] = bound
				raised = true
			}
		}
	}
	return raised
}

// step tells how far a head must stand above an atom of that kind in its body.
func step(kind int) int {
	if kind == kinds.Not {
		return 1
	}
	return 0
}
