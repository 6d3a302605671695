package words_test

import (
	"encoding/binary"
	"math/rand"
	"slices"
	"strings"
	"testing"

	"deduce/api"
	"deduce/words"
)

func x(many int) string { return strings.Repeat("x", many) }

func TestBuildBytes(t *testing.T) {
	for _, c := range []struct {
		list []string
		want string
	}{
		{nil, "\x00"},
		{[]string{}, "\x00"},
		{[]string{""}, "\x01\x00\x00"},
		{[]string{"a"}, "\x01\x00\x01a"},
		{[]string{"", "a"}, "\x02\x00\x00\x00\x01a"},
		{[]string{"", "\x00"}, "\x02\x00\x00\x00\x01\x00"},
		{[]string{"a", "b"}, "\x02\x00\x01a\x00\x01b"},
		{[]string{"a", "ab"}, "\x02\x00\x01a\x01\x01b"},
		{[]string{"a", "ab", "abc"}, "\x03\x00\x01a\x01\x01b\x02\x01c"},
		{[]string{"abc", "abd", "ac", "b"}, "\x04\x00\x03abc\x02\x01d\x01\x01c\x00\x01b"},
		{[]string{"abab", "abb"}, "\x02\x00\x04abab\x02\x01b"},
		{[]string{"Z", "a", "\x7f", "\x80", "\xff", "\xff\x00"}, "\x06\x00\x01Z\x00\x01a\x00\x01\x7f\x00\x01\x80\x00\x01\xff\x01\x01\x00"},
		{[]string{x(200)}, "\x01\x00\xc8\x01" + x(200)},
		{[]string{x(128), x(200)}, "\x02\x00\x80\x01" + x(128) + "\x80\x01\x48" + x(72)},
		{[]string{x(199) + "a", x(199) + "b"}, "\x02\x00\xc8\x01" + x(199) + "a\xc7\x01\x01b"},
	} {
		got, errno, at := words.Build(c.list)
		if got != c.want || errno != api.OK || at != 0 {
			t.Errorf("Build(%q) = % x, %d, %d, want % x", c.list, got, errno, at, c.want)
		}
	}
}

func TestBuildRefuses(t *testing.T) {
	for _, c := range []struct {
		name string
		list []string
		want api.Errno
		at   int
	}{
		{"201 bytes", []string{x(201)}, api.ErrLong, 0},
		{"201 bytes behind others", []string{"a", "b", x(201)}, api.ErrLong, 2},
		{"the same one", []string{"a", "a"}, api.ErrOrder, 1},
		{"the empty text twice", []string{"", ""}, api.ErrOrder, 1},
		{"one that stands ahead", []string{"b", "a"}, api.ErrOrder, 1},
		{"its own beginning", []string{"ab", "a"}, api.ErrOrder, 1},
		{"the empty text behind another", []string{"a", ""}, api.ErrOrder, 1},
		{"bytes from 128 on stand behind", []string{"\x80", "z"}, api.ErrOrder, 1},
		{"small letters stand behind great ones", []string{"a", "Z"}, api.ErrOrder, 1},
		{"the third", []string{"a", "c", "b", "d"}, api.ErrOrder, 2},
		{"too long and ahead: ErrLong is named first", []string{"y", x(201)}, api.ErrLong, 1},
		{"too long and the same", []string{"a", x(201), x(201)}, api.ErrLong, 1},
		{"an order ahead of a length", []string{"b", "a", x(201)}, api.ErrOrder, 1},
		{"a length ahead of an order", []string{x(201), "b", "a"}, api.ErrLong, 0},
		{"the first of two orders", []string{"a", "c", "b", "a"}, api.ErrOrder, 2},
		{"the first of two lengths", []string{"a", x(202), x(203)}, api.ErrLong, 1},
		{"it is held against the one ahead, not against the greatest", []string{"c", "a", "b"}, api.ErrOrder, 1},
	} {
		got, errno, at := words.Build(c.list)
		if got != "" || errno != c.want || at != c.at {
			t.Errorf("%s: % x, %d, %d, want nothing, %d, %d", c.name, got, errno, at, c.want, c.at)
		}
	}
}

func TestBuildLeavesTheList(t *testing.T) {
	list := []string{"a", "ab", "b"}
	kept := slices.Clone(list)
	words.Build(list)
	words.Find(list, "b")
	if !slices.Equal(list, kept) {
		t.Errorf("the list that was handed in is now %q", list)
	}
}

// slowBuild writes a rising list with the library's numbers.
func slowBuild(list []string) string {
	out := binary.AppendUvarint(nil, uint64(len(list)))
	for i, text := range list {
		same := 0
		for i > 0 && same < len(text) && strings.HasPrefix(list[i-1], text[:same+1]) {
			same++
		}
		out = binary.AppendUvarint(out, uint64(same))
		out = binary.AppendUvarint(out, uint64(len(text)-same))
		out = append(out, text[same:]...)
	}
	return string(out)
}

// risingLists has lists of many kinds, by a fixed beginning of the source.
func risingLists() [][]string {
	r := rand.New(rand.NewSource(5))
	lists := [][]string{{}, {""}, {x(200)}, {"", x(199), x(200), x(199) + "y"}}
	for many := range 60 {
		var list []string
		for range many * many / 4 {
			text := make([]byte, r.Intn(r.Intn(200)+1))
			for i := range text {
				text[i] = "ab\x00\xff"[r.Intn(r.Intn(4)+1)]
			}
			list = append(list, string(text))
		}
		slices.Sort(list)
		lists = append(lists, slices.Compact(list))
	}
	return lists
}

func TestOpenOfEveryBuild(t *testing.T) {
	for _, list := range risingLists() {
		data, errno, at := words.Build(list)
		if errno != api.OK || at != 0 || data != slowBuild(list) {
			t.Fatalf("Build of %d texts = % x, %d, %d, want % x", len(list), data, errno, at, slowBuild(list))
		}
		got, errno := words.Open(data)
		if errno != api.OK || !slices.Equal(got, list) {
			t.Fatalf("Open of Build of %q = %q, %d", list, got, errno)
		}
	}
}

func wantNone(t *testing.T, name, data string) {
	t.Helper()
	got, errno := words.Open(data)
	if len(got) != 0 || errno != api.ErrData {
		t.Errorf("%s: Open(% x) = %q, %d, want nothing and ErrData", name, data, got, errno)
	}
}

func TestOpenOfCutAndLonger(t *testing.T) {
	for _, list := range [][]string{{}, {""}, {"a"}, {"a", "ab", "b"}, {"", x(150), x(151)}} {
		data, _, _ := words.Build(list)
		for cut := range len(data) {
			wantNone(t, "cut", data[:cut])
		}
		for _, more := range []string{"\x00", "\x01", "a", "\x00\x00", "\x00\x01z"} {
			wantNone(t, "more behind", data+more)
		}
	}
}

func TestOpenRefuses(t *testing.T) {
	const most = "\xff\xff\xff\xff\xff\xff\xff\xff\x7f"
	for _, c := range []struct{ name, data string }{
		{"nothing", ""},
		{"a count without texts", "\x01"},
		{"a count above what stands there", "\x03\x00\x01a\x01\x01b"},
		{"a count below what stands there", "\x01\x00\x01a\x01\x01b"},
		{"the greatest count", most + "\x00\x01a"},
		{"the greatest count alone", most},
		{"a count with a needless byte", "\x81\x00\x00\x01a"},
		{"a count that is no number", "\x80"},
		{"a beginning of the first text", "\x01\x01\x00"},
		{"a beginning of the first text, and bytes", "\x01\x01\x01a"},
		{"a beginning above the text ahead", "\x02\x00\x01a\x02\x01b"},
		{"the greatest beginning", "\x02\x00\x01a" + most + "\x01b"},
		{"a length above what stands there", "\x01\x00\x02a"},
		{"the greatest length", "\x01\x00" + most + "a"},
		{"a beginning that is told shorter than it is", "\x02\x00\x01a\x00\x02ab"},
		{"a beginning that is told shorter by one", "\x02\x00\x02ab\x01\x02bc"},
		{"the same text", "\x02\x00\x01a\x01\x00"},
		{"the same text, written out", "\x02\x00\x01a\x00\x01a"},
		{"the empty text twice", "\x02\x00\x00\x00\x00"},
		{"a text that stands ahead", "\x02\x00\x01b\x00\x01a"},
		{"the beginning of the text ahead", "\x02\x00\x02ab\x01\x00"},
		{"needless byte in a beginning", "\x02\x00\x01a\x81\x00\x01b"},
		{"needless byte in a length", "\x01\x00\x81\x00a"},
		{"a text of 201 bytes", "\x01\x00\xc9\x01" + x(201)},
		{"a text of 201 bytes with a beginning", "\x02\x00\xc8\x01" + x(200) + "\xc8\x01\x01x"},
		{"a text of 201 bytes with a short beginning", "\x02\x00\x01x\x01\xc8\x01" + x(200)},
		{"a text of 201 bytes in the middle", "\x03\x00\x01a\x00\xc9\x01" + x(201) + "\x00\x01z"},
	} {
		wantNone(t, c.name, c.data)
	}
}

func TestOpenOfTheLongest(t *testing.T) {
	list := []string{x(199), x(200)}
	got, errno := words.Open("\x02\x00\xc7\x01" + x(199) + "\xc7\x01\x01x")
	if errno != api.OK || !slices.Equal(got, list) {
		t.Errorf("Open of 199 and 200 bytes = %q, %d", got, errno)
	}
}

// everyText has all texts over the letters up to a length.
func everyText(letters string, most int) []string {
	list := []string{""}
	for start := 0; most > 0; most-- {
		end := len(list)
		for _, text := range list[start:end] {
			for i := range len(letters) {
				list = append(list, text+letters[i:i+1])
			}
		}
		start = end
	}
	return list
}

// All bytes up to a length, over a few letters: Open takes just those that
// Build answers.
func TestOpenTakesBuildsAlone(t *testing.T) {
	const letters = "\x00\x01\x02\x80a"
	built := map[string][]string{"\x00": {}}
	for _, text := range everyText(letters, 4) {
		built[slowBuild([]string{text})] = []string{text}
	}
	short := everyText(letters, 2)
	for _, a := range short {
		for _, b := range short {
			if a < b {
				built[slowBuild([]string{a, b})] = []string{a, b}
			}
		}
	}
	for _, data := range everyText(letters, 7) {
		want, is := built[data]
		got, errno := words.Open(data)
		if (errno == api.OK) != is || !slices.Equal(got, want) || !is && errno != api.ErrData {
			t.Fatalf("Open(% x) = %q, %d, want %q", data, got, errno, want)
		}
	}
}

func TestFind(t *testing.T) {
	rising := []string{"", "a", "ab", "b", "\xff"}
	mixed := []string{"c", "a", "b", "a", "", "c", ""}
	for _, c := range []struct {
		list []string
		s    string
		want int
	}{
		{nil, "", -1},
		{nil, "a", -1},
		{[]string{}, "a", -1},
		{rising, "", 0},
		{rising, "a", 1},
		{rising, "ab", 2},
		{rising, "b", 3},
		{rising, "\xff", 4},
		{rising, "aa", -1},
		{rising, "\xff\xff", -1},
		{rising, "A", -1},
		{mixed, "a", 1},
		{mixed, "b", 2},
		{mixed, "c", 0},
		{mixed, "", 4},
		{mixed, "d", -1},
		{[]string{"b", "a"}, "a", 1},
		{[]string{"b", "a"}, "b", 0},
		{[]string{"a", "a", "a"}, "a", 0},
		{[]string{x(300), x(201), x(300)}, x(201), 1},
		{[]string{"z", "y", "x", "w", "v"}, "v", 4},
	} {
		if got := words.Find(c.list, c.s); got != c.want {
			t.Errorf("Find(%q, %q) = %d, want %d", c.list, c.s, got, c.want)
		}
	}
}
