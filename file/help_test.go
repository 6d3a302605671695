package file_test

import (
	"encoding/binary"
	"hash/crc32"
	"math/rand"
	"reflect"
	"slices"
	"strconv"
	"strings"
	"testing"

	"deduce/api"
)

// What the tests here hold the package against is written with the library's
// numbers and sums.

func number(n int) string { return string(binary.AppendUvarint(nil, uint64(n))) }

func sum(data string) string {
	return string(binary.LittleEndian.AppendUint32(nil, crc32.ChecksumIEEE([]byte(data))))
}

func page(body string) string { return number(len(body)) + body + sum(body) }

func sealed(parts ...string) string {
	data := "REL1" + strings.Join(parts, "")
	return data + sum(data)
}

func first(name string, arity, rows int) string {
	return page(number(len(name)) + name + number(arity) + number(rows))
}

func relation(name string, arity int, rows ...[]string) api.Relation {
	return api.Relation{Name: name, Arity: arity, Rows: rows}
}

func row(texts ...string) []string { return texts }

func copyOf(r api.Relation) api.Relation {
	r.Rows = slices.Clone(r.Rows)
	for i := range r.Rows {
		r.Rows[i] = slices.Clone(r.Rows[i])
	}
	return r
}

// same holds two relations against each other; a list without anything in it may be nil.
func same(a, b api.Relation) bool {
	return a.Name == b.Name && a.Arity == b.Arity && slices.EqualFunc(a.Rows, b.Rows, slices.Equal[[]string])
}

func isZero(r api.Relation) bool { return reflect.DeepEqual(r, api.Relation{}) }

// many has rows that differ, of one text each.
func many(rows int) [][]string {
	var list [][]string
	for i := range rows {
		list = append(list, row(strconv.Itoa(i*7919%rows)))
	}
	return list
}

// samples has tidy relations and others, of each arity.
func samples() []api.Relation {
	r := rand.New(rand.NewSource(3))
	list := []api.Relation{
		relation("p", 0),
		relation("p", 0, row()),
		relation("p", 1),
		relation("p", 1, row("")),
		relation("p", 2, row("b", "a"), row("a", "b"), row("a", "b")),
		relation("p", 8, row("", "", "", "", "", "", "", "")),
		relation("a_Name9", 1, row(strings.Repeat("\xff", 200))),
		relation(strings.Repeat("z", 30), 1, many(2000)...),
	}
	for i := range 90 {
		one := relation("r"+strconv.Itoa(i), i%9)
		for range r.Intn(40) {
			var texts []string
			for range one.Arity {
				texts = append(texts, strings.Repeat("ab\x00\xff"[r.Intn(4):], r.Intn(r.Intn(20)+1)))
			}
			one.Rows = append(one.Rows, texts)
		}
		list = append(list, one)
	}
	return list
}

func wantErrno(t *testing.T, name string, zero bool, errno api.Errno, at int, want api.Errno, wantAt int) {
	t.Helper()
	if !zero || errno != want || at != wantAt {
		t.Errorf("%s: nothing else: %v, errno %d, place %d, want %d, %d", name, zero, errno, at, want, wantAt)
	}
}
