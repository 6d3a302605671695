package wire_test

import (
	"strings"
	"testing"

	"deduce/wire"
)

// slowSum follows A3 word by word, without a table.
func slowSum(data string) string {
	n := uint32(0xFFFFFFFF)
	for i := range len(data) {
		n ^= uint32(data[i])
		for range 8 {
			if n%2 == 1 {
				n = n/2 ^ 0xEDB88320
			} else {
				n = n / 2
			}
		}
	}
	n ^= 0xFFFFFFFF
	return string([]byte{byte(n % 256), byte(n / 256 % 256), byte(n / 65536 % 256), byte(n / 16777216)})
}

// sampleTexts has texts of many lengths, with all bytes in them.
func sampleTexts() []string {
	list := []string{"", "123456789", "REL1", strings.Repeat("\x00", 40), strings.Repeat("\xff", 40)}
	var text []byte
	for i := range 300 {
		text = append(text, byte(i*167+i/7))
		list = append(list, string(text))
	}
	return list
}

func TestSumBytes(t *testing.T) {
	for _, c := range []struct{ data, want string }{
		{"", "\x00\x00\x00\x00"},
		{"123456789", "\x26\x39\xf4\xcb"},
		{"a", "\x43\xbe\xb7\xe8"},
		{"\x00", "\x8d\xef\x02\xd2"},
		{"\x00\x00", "\xff\x12\xd9\x41"},
		{"\xff", "\x00\x00\x00\xff"},
		{"\xff\xff\xff\xff", "\xff\xff\xff\xff"},
	} {
		if got := wire.Sum(c.data); got != c.want {
			t.Errorf("Sum(%q) = % x, want % x", c.data, got, c.want)
		}
	}
}

func TestSumOfEachByte(t *testing.T) {
	for b := range 256 {
		data := string([]byte{byte(b)})
		if got, want := wire.Sum(data), slowSum(data); got != want {
			t.Errorf("Sum(% x) = % x, want % x", data, got, want)
		}
	}
}

func TestSumStepByStep(t *testing.T) {
	for _, data := range sampleTexts() {
		if got, want := wire.Sum(data), slowSum(data); got != want {
			t.Errorf("Sum(% x) = % x, want % x", data, got, want)
		}
	}
}

func TestSumOfAnotherTextIsAnotherOne(t *testing.T) {
	for _, data := range []string{"\x00", "a", "123456789", "\x80\xff\x00\x7f", strings.Repeat("\x00", 100)} {
		sum := wire.Sum(data)
		for bit := range 8 * len(data) {
			turned := []byte(data)
			turned[bit/8] ^= 1 << (bit % 8)
			if wire.Sum(string(turned)) == sum {
				t.Errorf("Sum(% x) does not tell that bit %d was turned", data, bit)
			}
		}
	}
}

func TestSumOfASmallDamage(t *testing.T) {
	data := strings.Repeat("REL1 and more ", 3)
	sum := wire.Sum(data)
	for at := range len(data) - 3 {
		for _, change := range []string{"\x01\x00\x00\x80", "\xff\xff\xff\xff", "\x20\x83\xb8\xed", "\x00\x10\x01\x00"} {
			damaged := []byte(data)
			for i := range len(change) {
				damaged[at+i] ^= change[i]
			}
			if wire.Sum(string(damaged)) == sum {
				t.Errorf("Sum does not tell that % x was changed in from %d on", change, at)
			}
		}
	}
}
