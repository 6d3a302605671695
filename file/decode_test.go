package file_test

import (
	"math/rand"
	"slices"
	"strings"
	"testing"

	"deduce/api"
	"deduce/file"
)

func TestDecodeOfEveryEncode(t *testing.T) {
	for _, r := range samples() {
		data, errno, _ := file.Encode(r)
		if errno != api.OK {
			t.Fatalf("%s: Encode refuses with %d", r.Name, errno)
		}
		tidy, _, _ := file.Tidy(r)
		got, errno, at := file.Decode(data)
		if errno != api.OK || at != 0 || !same(got, tidy) {
			t.Errorf("%s: Decode = %v, %d, %d, want %v", r.Name, got, errno, at, tidy)
		}
	}
}

func wantRefused(t *testing.T, name, data string, want api.Errno, wantAt int) {
	t.Helper()
	got, errno, at := file.Decode(data)
	wantErrno(t, name, isZero(got), errno, at, want, wantAt)
}

// backwards turns the last four bytes round.
func backwards(data string) string {
	end := []byte(data[len(data)-4:])
	slices.Reverse(end)
	return data[:len(data)-4] + string(end)
}

func TestDecodeBeginningAndEnd(t *testing.T) {
	good := sealed(first("p", 0, 0), page("\x00"))
	other := "REL2" + good[4:len(good)-4]
	for _, c := range []struct{ name, data string }{
		{"nothing", ""},
		{"the beginning alone", "REL1"},
		{"seven bytes", "REL1abc"},
		{"four bytes that are their own end", "REL1" + sum("REL1")[:3]},
		{"a sum alone", sum("")},
		{"a sum of seven bytes", "REL" + sum("REL")},
		{"another beginning with its sum", other + sum(other)},
		{"small letters", "rel1" + sum("rel1")},
		{"another last sum", good[:len(good)-1] + "x"},
		{"a last sum the other way round", backwards(good)},
		{"no last sum", good[:len(good)-4]},
		{"a byte behind the last sum", good + "\x00"},
		{"a byte ahead", "\x00" + good},
		{"the file twice", good + good},
	} {
		wantRefused(t, c.name, c.data, api.ErrData, 0)
	}
	for cut := range len(good) {
		wantRefused(t, "cut", good[:cut], api.ErrData, 0)
	}
}

func TestDecodeLength(t *testing.T) {
	wantRefused(t, "too long, whatever it is", strings.Repeat("x", 65537), api.ErrLong, 0)
	wantRefused(t, "too long with its sum", sealed(strings.Repeat("x", 65529)), api.ErrLong, 0)
	wantRefused(t, "just as long as can be", strings.Repeat("x", 65536), api.ErrData, 0)
}

const most = "\xff\xff\xff\xff\xff\xff\xff\xff\x7f"

// threePages has the first page of a relation of one row and two columns, its
// list, and a page that does for either column.
func threePages() (string, string, string) {
	return first("p", 2, 1), page("\x01\x00\x01a"), page("\x00")
}

// A page that breaks off: ErrData and its place, under a last sum that is right.
func TestDecodePagesThatBreakOff(t *testing.T) {
	head, list, column := threePages()
	second := 4 + len(head)
	third := second + len(list)
	fourth := third + len(column)
	for _, c := range []struct {
		name string
		data string
		at   int
	}{
		{"no page", sealed(), 4},
		{"a number that breaks off", sealed("\x80"), 4},
		{"a length and no more", sealed("\x04"), 4},
		{"a first page without its sum", sealed("\x04\x01p\x02\x01"), 4},
		{"a first page with half its sum", sealed(head[:len(head)-2]), 4},
		{"a length above what stands there", sealed("\x05\x01p\x02\x01"), 4},
		{"a length that takes in the last sum", sealed("\x01"), 4},
		{"a sum that takes in the last sum", sealed("\x00"), 4},
		{"the greatest length", sealed(most, head), 4},
		{"a length that is no number", sealed("\xff\xff\xff\xff\xff\xff\xff\xff\xff\x7f", head), 4},
		{"a length with a needless byte", sealed("\x84\x00" + head[1:]), 4},
		{"no second page", sealed(head), second},
		{"a second page that breaks off", sealed(head, list[:len(list)-1]), second},
		{"no third page", sealed(head, list), third},
		{"a third page that breaks off", sealed(head, list, column[:1]), third},
		{"no fourth page", sealed(head, list, column), fourth},
		{"a fourth page that breaks off", sealed(head, list, column, "\x01"), fourth},
		{"the greatest length of the fourth page", sealed(head, list, column, most, "\x00"), fourth},
		{"no page of no rows", sealed(first("p", 1, 0), page("\x00")), 4 + len(first("p", 1, 0)+page("\x00"))},
	} {
		wantRefused(t, c.name, c.data, api.ErrData, c.at)
	}
}

// spoilt is a page whose sum is another one.
func spoilt(body string) string {
	p := []byte(page(body))
	p[len(p)-1] ^= 1
	return string(p)
}

func TestDecodePagesWithAnotherSum(t *testing.T) {
	head, list, column := threePages()
	second := 4 + len(head)
	third := second + len(list)
	fourth := third + len(column)
	for _, c := range []struct {
		name string
		data string
		want api.Errno
		at   int
	}{
		{"the first", sealed(spoilt("\x01p\x02\x01"), list, column, column), api.ErrSum, 4},
		{"the second", sealed(head, spoilt("\x01\x00\x01a"), column, column), api.ErrSum, second},
		{"the third", sealed(head, list, spoilt("\x00"), column), api.ErrSum, third},
		{"the fourth", sealed(head, list, column, spoilt("\x00")), api.ErrSum, fourth},
		{"an empty page", sealed("\x00abcd", list), api.ErrSum, 4},
		{"the first of two", sealed(head, spoilt("\x01\x00\x01a"), spoilt("\x00"), column), api.ErrSum, second},
		{"a sum, and a page that breaks off behind it", sealed(head, spoilt("\x01\x00\x01a"), "\x05"), api.ErrSum, second},
		{"a sum, and no page behind it", sealed(spoilt("\x01p\x02\x01")), api.ErrSum, 4},
		{"a page that breaks off, though a sum were another one", sealed(head, "\x02\x00"), api.ErrData, second},
		{"a bad list ahead of another sum", sealed(head, page("\x05"), spoilt("\x00"), column), api.ErrSum, second + len(page("\x05"))},
		{"numbers that are none ahead of another sum", sealed(head, list, page("\x80"), spoilt("\x00")), api.ErrSum, fourth},
		{"numbers that are none ahead of a break", sealed(head, list, page("\x80"), "\x01"), api.ErrData, fourth},
		{"another sum behind the last page", sealed(head, list, column, column, spoilt("\x00")), api.ErrData, 0},
	} {
		wantRefused(t, c.name, c.data, c.want, c.at)
	}
}

// Where the first page is none of a relation, two pages are wanted and no more.
func TestDecodeHowManyPages(t *testing.T) {
	list := page("\x00")
	for _, c := range []struct{ name, body string }{
		{"nothing in it", ""},
		{"no name", "\x00\x02\x00"},
		{"a great letter", "\x01P\x02\x00"},
		{"not", "\x03not\x02\x00"},
		{"31 bytes", "\x1f" + strings.Repeat("p", 31) + "\x02\x00"},
		{"arity 9", "\x01p\x09\x00"},
		{"the greatest arity", "\x01p" + most + "\x00"},
		{"arity with a needless byte", "\x01p\x82\x00\x00"},
		{"2001 rows", "\x01p\x02\xd1\x0f"},
		{"the greatest number of rows", "\x01p\x02" + most},
		{"rows with a needless byte", "\x01p\x02\x80\x00"},
		{"no arity", "\x01p"},
		{"no rows", "\x01p\x02"},
		{"a byte behind", "\x01p\x02\x00\x00"},
		{"a name that breaks off", "\x05p\x02\x00"},
		{"the greatest length of a name", most + "p\x02\x00"},
		{"a length with a needless byte", "\x81\x00p\x02\x00"},
	} {
		head := page(c.body)
		second := 4 + len(head)
		wantRefused(t, c.name+": alone", sealed(head), api.ErrData, second)
		wantRefused(t, c.name+": a second one with another sum", sealed(head, spoilt("\x00")), api.ErrSum, second)
		wantRefused(t, c.name+": two", sealed(head, list), api.ErrData, 0)
		wantRefused(t, c.name+": a third one that is none", sealed(head, list, spoilt("\x00")), api.ErrData, 0)
		wantRefused(t, c.name+": four", sealed(head, list, page(""), page("")), api.ErrData, 0)
	}
	for arity := range 9 {
		head := first("p", arity, 2000)
		pages := []string{head, list}
		for range arity {
			wantRefused(t, "fewer pages", sealed(pages...), api.ErrData, 4+len(strings.Join(pages, "")))
			pages = append(pages, page(""))
		}
		wantRefused(t, "all pages", sealed(pages...), api.ErrData, 0)
	}
}

// Pages that are sound, but of no relation.
func TestDecodePagesOfNoRelation(t *testing.T) {
	ab := page("\x02\x00\x01a\x00\x01b")
	one := func(rows int, list, column string) string { return sealed(first("p", 1, rows), list, page(column)) }
	for _, c := range []struct{ name, data string }{
		{"a needless byte in a number", one(2, ab, "\x80\x00\x02")},
		{"a needless byte in the last number", one(2, ab, "\x00\x82\x00")},
		{"rows that fall", one(2, ab, "\x02\x01")},
		{"a row twice", one(3, ab, "\x00\x00\x02")},
		{"a text that no row has", one(1, ab, "\x00")},
		{"a text that no row has, the first", one(1, ab, "\x02")},
		{"texts and no row", one(0, ab, "")},
		{"texts of arity 0", sealed(first("p", 0, 1), page("\x01\x00\x01a"))},
		{"two rows of arity 0", sealed(first("p", 0, 2), page("\x00"))},
		{"2000 rows of arity 0", sealed(first("p", 0, 2000), page("\x00"))},
		{"a number below 0", one(2, ab, "\x01\x04")},
		{"a number above the texts", one(2, ab, "\x00\x04")},
		{"no text at all", one(1, page("\x00"), "\x00")},
		{"the greatest step up", one(2, ab, "\x00\xfe\xff\xff\xff\xff\xff\xff\xff\x7f")},
		{"the greatest step down", one(2, ab, "\x00"+most)},
		{"steps that come back round", one(3, ab, "\xfe\xff\xff\xff\xff\xff\xff\xff\x7f"+most+"\x02")},
		{"fewer numbers than rows", one(2, ab, "\x00")},
		{"no numbers", one(2, ab, "")},
		{"more numbers than rows", one(2, ab, "\x00\x02\x01")},
		{"a number that breaks off", one(2, ab, "\x00\x82")},
		{"a list that is none", one(2, page("\x02\x00\x01b\x00\x01a"), "\x00\x02")},
		{"a list with bytes behind it", one(2, page("\x02\x00\x01a\x00\x01b\x00"), "\x00\x02")},
		{"a list with a count that is too great", one(2, page(most+"\x00\x01a\x00\x01b"), "\x00\x02")},
		{"an empty list page", one(0, page(""), "")},
		{"a byte behind the last page", sealed(first("p", 1, 2), ab, page("\x00\x02"), "\x00")},
		{"a page behind the last page", sealed(first("p", 1, 2), ab, page("\x00\x02"), page(""))},
		{"four bytes behind the last page", sealed(first("p", 1, 2), ab, page("\x00\x02"), "abcd")},
	} {
		wantRefused(t, c.name, c.data, api.ErrData, 0)
	}
	if got, errno, at := file.Decode(one(2, ab, "\x00\x02")); errno != api.OK || at != 0 || !same(got, relation("p", 1, row("a"), row("b"))) {
		t.Errorf("the sound one: %v, %d, %d", got, errno, at)
	}
}

// smallFiles has the texts that are damaged.
func smallFiles(t *testing.T) []string {
	t.Helper()
	var list []string
	for _, r := range []api.Relation{
		relation("p", 0),
		relation("p", 0, row()),
		relation("edge", 2, row("a", "b"), row("b", "c"), row("c", "a")),
		relation("w", 1, row(strings.Repeat("\x00", 50)), row(strings.Repeat("\xff", 50))),
	} {
		data, errno, _ := file.Encode(r)
		if errno != api.OK {
			t.Fatalf("%s: Encode refuses with %d", r.Name, errno)
		}
		list = append(list, data)
	}
	return list
}

// turn turns bits of a text from a place on, the lowest one of each byte first.
func turn(data string, from int, bits uint32) string {
	out := []byte(data)
	for i := range 32 {
		if bits>>i&1 == 1 {
			out[(from+i)/8] ^= 1 << ((from + i) % 8)
		}
	}
	return string(out)
}

func TestEachBitTurnedAlone(t *testing.T) {
	for _, data := range smallFiles(t) {
		for bit := range 8 * len(data) {
			turned := []byte(data)
			turned[bit/8] ^= 1 << (bit % 8)
			wantRefused(t, "a bit turned", string(turned), api.ErrData, 0)
		}
	}
}

func TestBitsTurnedSideBySide(t *testing.T) {
	r := rand.New(rand.NewSource(7))
	for _, data := range smallFiles(t) {
		for from := range 8*len(data) - 31 {
			wantRefused(t, "all 32 turned", turn(data, from, 1<<32-1), api.ErrData, 0)
			wantRefused(t, "the outer ones turned", turn(data, from, 1<<31|1), api.ErrData, 0)
			// The bits of the sum's own turn: a sum of 31 bits or of another turn would not tell them.
			wantRefused(t, "its turn", turn(data, from, 0xEDB88320), api.ErrData, 0)
			for range 20 {
				wantRefused(t, "some turned", turn(data, from, r.Uint32()|1), api.ErrData, 0)
			}
		}
	}
}

// Whatever Decode takes is the text that Encode answers for it.
func TestOneTextOfEach(t *testing.T) {
	r := rand.New(rand.NewSource(11))
	taken := 0
	for range 60000 {
		pages := []string{page(shuffled(r, "\x01p\x01\x02")), page(shuffled(r, "\x02\x00\x01a\x00\x01b")), page(shuffled(r, "\x00\x02"))}
		data := sealed(pages...)
		got, errno, _ := file.Decode(data)
		if errno != api.OK {
			continue
		}
		taken++
		if again, errno, _ := file.Encode(got); again != data || errno != api.OK {
			t.Fatalf("% x is taken as %v, which has the text % x", data, got, again)
		}
	}
	if taken == 0 {
		t.Error("none was taken: nothing was tested")
	}
}

// shuffled changes a text in at most one place.
func shuffled(r *rand.Rand, s string) string {
	at := r.Intn(len(s))
	switch r.Intn(6) {
	case 0:
		return s[:at] + string([]byte{byte(r.Intn(5))}) + s[at+1:]
	case 1:
		return s[:at] + string([]byte{"ab\x00\x80"[r.Intn(4)]}) + s[at+1:]
	case 2:
		return s[:at] + s[at+1:]
	case 3:
		return s[:at] + string([]byte{byte(r.Intn(5))}) + s[at:]
	}
	return s
}
