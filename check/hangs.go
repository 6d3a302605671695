package check

import (
	"deduce/api"
	"deduce/walk"
)

type names map[string]struct{}

// hangings has, of each name that a rule's head has, names that it hangs on.
type hangings map[string]names

// direct answers the names that stand in the bodies themselves.
func direct(rules []api.Rule) hangings {
	h := hangings{}
	for _, rule := range rules {
		head := rule.Head.Name
		if h[head] == nil {
			h[head] = names{}
		}
		for _, atom := range walk.Body(rule) {
			h[head][atom.Name] = struct{}{}
		}
	}
	return h
}

// closed answers all names, those that are reached over others among them.
func (h hangings) closed() hangings {
	all := hangings{}
	for name := range h {
		all[name] = names{}
		h.follow(name, all[name])
	}
	return all
}

// follow adds what a name hangs on to what has been found.
func (h hangings) follow(name string, found names) {
	for other := range h[name] {
		if _, old := found[other]; !old {
			found[other] = struct{}{}
			h.follow(other, found)
		}
	}
}

func (h hangings) hangs(name, other string) bool {
	_, does := h[name][other]
	return does
}
