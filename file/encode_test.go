package file_test

import (
	"encoding/hex"
	"slices"
	"strconv"
	"strings"
	"testing"

	"deduce/api"
	"deduce/file"
)

func wantBytes(t *testing.T, name string, r api.Relation, want string) {
	t.Helper()
	got, errno, at := file.Encode(r)
	if got != want || errno != api.OK || at != 0 {
		t.Errorf("%s: % x, %d, %d, want % x", name, got, errno, at, want)
	}
}

// Every byte by hand, the sums too.
func TestEncodeByHand(t *testing.T) {
	for _, c := range []struct {
		name string
		r    api.Relation
		want string
	}{
		{"two rows", relation("p", 2, row("b", "a"), row("a", "b"), row("a", "b")), "52454c31" +
			"04 01 70 02 02 87d33111" + "07 02 00 01 61 00 01 62 b446ae0e" +
			"02 00 02 d373d7af" + "02 02 01 eb40e804" + "2a2b271c"},
		{"arity 0 without its row", relation("p", 0), "52454c31" +
			"04 01 70 00 00 29d009cd" + "01 00 8def02d2" + "9a5fd8ad"},
		{"arity 0 with its row", relation("p", 0, row()), "52454c31" +
			"04 01 70 00 01 bfe00eba" + "01 00 8def02d2" + "9a5fd8ad"},
	} {
		want, err := hex.DecodeString(strings.ReplaceAll(c.want, " ", ""))
		if err != nil {
			t.Fatal(err)
		}
		wantBytes(t, c.name, c.r, string(want))
	}
}

func TestEncodePages(t *testing.T) {
	wantBytes(t, "arity 1 without rows", relation("edge", 1),
		sealed(page("\x04edge\x01\x00"), page("\x00"), page("")))
	wantBytes(t, "the empty text", relation("p", 1, row("")),
		sealed(page("\x01p\x01\x01"), page("\x01\x00\x00"), page("\x00")))
	wantBytes(t, "texts of both columns, up and down", relation("e", 2, row("b", "a"), row("a", "d"), row("a", "c"), row("d", "b")),
		sealed(page("\x01e\x02\x04"), page("\x04\x00\x01a\x00\x01b\x00\x01c\x00\x01d"),
			page("\x00\x00\x02\x04"), page("\x04\x02\x05\x02")))
	wantBytes(t, "common beginnings", relation("w", 1, row("abd"), row("ab"), row("abc")),
		sealed(page("\x01w\x01\x03"), page("\x03\x00\x02ab\x02\x01c\x02\x01d"), page("\x00\x02\x02")))
	wantBytes(t, "eight columns", relation("p", 8, slices.Repeat(row("a"), 8)),
		sealed(page("\x01p\x08\x01"), page("\x01\x00\x01a"), strings.Repeat(page("\x00"), 8)))
	wantBytes(t, "a name of 30 bytes", relation(strings.Repeat("n", 30), 0),
		sealed(page("\x1e"+strings.Repeat("n", 30)+"\x00\x00"), page("\x00")))
}

// Numbers of more than one byte: how many rows, and steps of 64 and more.
func TestEncodeLongNumbers(t *testing.T) {
	up := relation("p", 1)
	var both [][]string
	for i := range 200 {
		up.Rows = append(up.Rows, row(strconv.Itoa(1000+i)))
		both = append(both, row(strconv.Itoa(1000+i), strconv.Itoa(1199-i)))
	}
	wantBytes(t, "200 rows, the second column falling", relation("p", 2, both...),
		sealed(page("\x01p\x02\xc8\x01"), page(listOf(up)),
			page("\x00"+strings.Repeat("\x02", 199)), page("\x8e\x03"+strings.Repeat("\x01", 199))))
}

func TestEncodeIsThatOfTheTidyOne(t *testing.T) {
	for _, r := range samples() {
		tidy, _, _ := file.Tidy(r)
		plain, errno, at := file.Encode(r)
		again, errno2, at2 := file.Encode(tidy)
		if plain == "" || plain != again || errno != api.OK || errno2 != api.OK || at != 0 || at2 != 0 {
			t.Errorf("%s: % x, %d, %d, but of the tidy one % x, %d, %d", r.Name, plain, errno, at, again, errno2, at2)
		}
	}
}

func TestEncodeRefuses(t *testing.T) {
	for _, c := range refused() {
		got, errno, at := file.Encode(c.r)
		wantErrno(t, c.name, got == "", errno, at, c.want, c.at)
	}
}

// fileOf has a relation of which the file has just so many bytes: 300 texts of
// 200 bytes are some 60000, and short ones are made longer till all are there.
func fileOf(t *testing.T, bytes int) api.Relation {
	t.Helper()
	r := relation("p", 1)
	for i := range 300 {
		r.Rows = append(r.Rows, row(strconv.Itoa(1000+i)+strings.Repeat("x", 196)))
	}
	for i := range 200 {
		r.Rows = append(r.Rows, row(strconv.Itoa(2000+i)))
	}
	for i := range 200 {
		lacks := bytes - len(sealedOf(t, r))
		r.Rows[300+i][0] += strings.Repeat("y", min(lacks, 100))
	}
	return r
}

// sealedOf writes the file of a relation of one column that rises.
func sealedOf(t *testing.T, r api.Relation) string {
	t.Helper()
	return sealed(first(r.Name, 1, len(r.Rows)), page(listOf(r)), page("\x00"+strings.Repeat("\x02", len(r.Rows)-1)))
}

// listOf writes the list of the texts of a relation of one column that rises.
func listOf(r api.Relation) string {
	var list strings.Builder
	list.WriteString(number(len(r.Rows)))
	ahead := ""
	for _, one := range r.Rows {
		text := one[0]
		same := 0
		for same < len(ahead) && same < len(text) && ahead[same] == text[same] {
			same++
		}
		list.WriteString(number(same) + number(len(text)-same) + text[same:])
		ahead = text
	}
	return list.String()
}

func TestEncodeOfTheGreatestFile(t *testing.T) {
	for _, bytes := range []int{65535, 65536} {
		r := fileOf(t, bytes)
		want := sealedOf(t, r)
		got, errno, at := file.Encode(r)
		if len(want) != bytes || got != want || errno != api.OK || at != 0 {
			t.Fatalf("a file of %d bytes: %d bytes, %d, %d", bytes, len(got), errno, at)
		}
		read, errno, at := file.Decode(got)
		if errno != api.OK || at != 0 || !same(read, r) {
			t.Errorf("Decode of %d bytes: %d rows, %d, %d", bytes, len(read.Rows), errno, at)
		}
	}
}

func TestTooLongAFile(t *testing.T) {
	for _, bytes := range []int{65537, 65538, 66000} {
		r := fileOf(t, bytes)
		data := sealedOf(t, r)
		if len(data) != bytes {
			t.Fatalf("the file has %d bytes, not %d", len(data), bytes)
		}
		got, errno, at := file.Encode(r)
		wantErrno(t, "Encode", got == "", errno, at, api.ErrLong, 0)
		read, errno, at := file.Decode(data)
		wantErrno(t, "Decode", isZero(read), errno, at, api.ErrLong, 0)
	}
	r := relation("p", 8)
	for i := range 2000 {
		r.Rows = append(r.Rows, slices.Repeat(row(strconv.Itoa(i)+strings.Repeat("x", 190)), 8))
	}
	got, errno, at := file.Encode(r)
	wantErrno(t, "2000 rows of 8 texts", got == "", errno, at, api.ErrLong, 0)
}
