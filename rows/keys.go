package rows

import (
	"strconv"
	"strings"
)

// key answers a text that no other row has: each of the row's texts stands
// behind its length, so that texts that join alike differ.
func key(row []string) string {
	var b strings.Builder
	for _, text := range row {
		b.WriteString(strconv.Itoa(len(text)))
		b.WriteByte(':')
		b.WriteString(text)
	}
	return b.String()
}

// keysOf answers the keys of rows.
func keysOf(rows [][]string) map[string]struct{} {
	keys := map[string]struct{}{}
	for _, row := range rows {
		keys[key(row)] = struct{}{}
	}
	return keys
}

// grouped answers the rows that have all columns, by the key of what stands in
// these.
func grouped(rows [][]string, columns []int) map[string][][]string {
	groups := map[string][][]string{}
	for _, row := range rows {
		if texts, all := take(row, columns); all {
			k := key(texts)
			groups[k] = append(groups[k], row)
		}
	}
	return groups
}
