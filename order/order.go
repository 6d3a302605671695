// Package order puts rows in order: by their first texts, then by the next ones,
// and so on, byte by byte; a row ahead of one that it begins.
package order

import "slices"

// Rising answers rows in new memory, in order, each once.
func Rising(rows [][]string) [][]string {
	list := slices.Clone(rows)
	for i, row := range list {
		list[i] = slices.Clone(row)
	}
	return Settle(list)
}

// Settle puts a list itself in order and cuts from it what stands there twice.
func Settle(list [][]string) [][]string {
	slices.SortFunc(list, slices.Compare[[]string])
	return slices.CompactFunc(list, slices.Equal[[]string])
}
