package wire_test

import (
	"encoding/binary"
	"math"
	"strings"
	"testing"

	"deduce/api"
	"deduce/wire"
)

// numbers has the edges: each power of two, and what stands beside it.
func numbers() []int {
	list := []int{0, 127, 128, 300, math.MaxInt}
	for bit := range 63 {
		n := 1 << bit
		list = append(list, n-1, n, n+1)
	}
	return list
}

func TestVarintBytes(t *testing.T) {
	for _, c := range []struct {
		n    int
		want string
	}{
		{0, "\x00"},
		{1, "\x01"},
		{127, "\x7f"},
		{128, "\x80\x01"},
		{129, "\x81\x01"},
		{300, "\xac\x02"},
		{16383, "\xff\x7f"},
		{16384, "\x80\x80\x01"},
		{1 << 62, "\x80\x80\x80\x80\x80\x80\x80\x80\x40"},
		{math.MaxInt, "\xff\xff\xff\xff\xff\xff\xff\xff\x7f"},
	} {
		got, errno := wire.Varint(c.n)
		if got != c.want || errno != api.OK {
			t.Errorf("Varint(%d) = % x, %d, want % x", c.n, got, errno, c.want)
		}
	}
}

func TestVarintAsTheLibraryHasIt(t *testing.T) {
	for _, n := range numbers() {
		got, errno := wire.Varint(n)
		want := string(binary.AppendUvarint(nil, uint64(n)))
		if got != want || errno != api.OK {
			t.Errorf("Varint(%d) = % x, %d, want % x", n, got, errno, want)
		}
	}
}

func TestVarintBelowZero(t *testing.T) {
	for _, n := range []int{-1, -2, -127, -128, -300, -1 << 62, math.MinInt + 1, math.MinInt} {
		got, errno := wire.Varint(n)
		if got != "" || errno != api.ErrRange {
			t.Errorf("Varint(%d) = % x, %d, want nothing and ErrRange", n, got, errno)
		}
	}
}

func TestVarintThereAndBack(t *testing.T) {
	for _, n := range numbers() {
		text, _ := wire.Varint(n)
		for _, ahead := range []string{"", "\x80", "ab\xff"} {
			for _, behind := range []string{"", "\x00", "\x80", "\xff\x01z"} {
				got, at, errno := wire.Unvarint(ahead+text+behind, len(ahead))
				if got != n || at != len(ahead)+len(text) || errno != api.OK {
					t.Errorf("Unvarint of %d between % x and % x = %d, %d, %d", n, ahead, behind, got, at, errno)
				}
			}
		}
	}
}

func wantRefusal(t *testing.T, data string, at int, want api.Errno) {
	t.Helper()
	n, next, errno := wire.Unvarint(data, at)
	if n != 0 || next != 0 || errno != want {
		t.Errorf("Unvarint(% x, %d) = %d, %d, %d, want 0, 0, %d", data, at, n, next, errno, want)
	}
}

func TestUnvarintPlaceOutOfBounds(t *testing.T) {
	for _, data := range []string{"", "\x01", "\x80\x01", "\x80", "abc"} {
		for _, at := range []int{-1, -2, math.MinInt, len(data) + 1, len(data) + 2, math.MaxInt} {
			wantRefusal(t, data, at, api.ErrRange)
		}
	}
}

func TestUnvarintAtTheEnd(t *testing.T) {
	for _, data := range []string{"", "\x00", "\x80\x01", "abc"} {
		wantRefusal(t, data, len(data), api.ErrData)
	}
}

func TestUnvarintBytesThatEndTooEarly(t *testing.T) {
	for _, n := range numbers() {
		text, _ := wire.Varint(n)
		for cut := range len(text) {
			wantRefusal(t, text[:cut], 0, api.ErrData)
			wantRefusal(t, "a"+text[:cut], 1, api.ErrData)
		}
	}
}

func TestUnvarintNeedlessLastByte(t *testing.T) {
	for many := 1; many < 12; many++ {
		wantRefusal(t, strings.Repeat("\x80", many)+"\x00", 0, api.ErrData)
		wantRefusal(t, strings.Repeat("\x81", many)+"\x00", 0, api.ErrData)
		wantRefusal(t, "\x05"+strings.Repeat("\xff", many)+"\x00\x01", 1, api.ErrData)
	}
}

func TestUnvarintGroupsOfZeroInside(t *testing.T) {
	n, at, errno := wire.Unvarint("\x80\x80\x01", 0)
	if n != 16384 || at != 3 || errno != api.OK {
		t.Errorf("Unvarint(80 80 01) = %d, %d, %d, want 16384, 3, 0", n, at, errno)
	}
}

func TestUnvarintTooManyBytes(t *testing.T) {
	for many := 9; many < 80; many++ {
		for _, last := range []string{"", "\x00", "\x01", "\x02", "\x7f"} {
			wantRefusal(t, strings.Repeat("\x80", many)+last, 0, api.ErrData)
			wantRefusal(t, strings.Repeat("\xff", many)+last, 0, api.ErrData)
		}
	}
}

// What is taken is written anew as the very bytes that were read.
func TestUnvarintTakesOneTextANumber(t *testing.T) {
	for a := range 256 {
		for b := range 256 {
			data := string([]byte{byte(a), byte(b), 1})
			n, at, errno := wire.Unvarint(data, 0)
			if errno != api.OK {
				if a < 128 || b != 0 {
					t.Errorf("Unvarint(% x) refuses with %d", data, errno)
				}
				continue
			}
			if text, _ := wire.Varint(n); text != data[:at] {
				t.Errorf("Unvarint(% x) = %d, %d, but Varint has % x", data, n, at, text)
			}
		}
	}
}
