package deduce

import (
	"slices"

	"deduce/api"
	"deduce/check"
	"deduce/file"
	"deduce/syntax"
)

// read answers what files are, if the program can be followed and each of them is
// a file.
func read(program string, files []string) ([]api.Relation, api.Errno, int) {
	if errno, at := check.Check(program); errno != api.OK {
		return nil, errno, at
	}
	var known []api.Relation
	for number, data := range files {
		relation, errno, _ := file.Decode(data)
		if errno != api.OK {
			return nil, errno, number
		}
		known = append(known, relation)
	}
	return known, api.OK, 0
}

// told leaves of a model, which it may change, the relations that rules tell of.
func told(program string, model []api.Relation) []api.Relation {
	heads := headsOf(program)
	return slices.DeleteFunc(model, func(relation api.Relation) bool {
		_, is := heads[relation.Name]
		return !is
	})
}

// headsOf answers the names of the heads of a program's rules.
func headsOf(program string) map[string]struct{} {
	rules, _, _ := syntax.Parse(program)
	heads := map[string]struct{}{}
	for _, rule := range rules {
		heads[rule.Head.Name] = struct{}{}
	}
	return heads
}

// write answers the file of each relation, in their order.
func write(relations []api.Relation) ([]string, api.Errno, int) {
	var files []string
	for _, relation := range relations {
		data, errno, _ := file.Encode(relation)
		if errno != api.OK {
			return nil, errno, 0
		}
		files = append(files, data)
	}
	return files, api.OK, 0
}
