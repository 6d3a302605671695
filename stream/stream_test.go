package stream_test

import (
	"math"
	"testing"

	"deduce/api"
	"deduce/stream"
)

func TestWhatIsWrittenIsRead(t *testing.T) {
	var w stream.Writer
	w.Number(300)
	w.Text("ab")
	w.Counted("cde")
	w.Counted("")
	if want := "\xac\x02ab\x03cde\x00"; w.Written() != want {
		t.Fatalf("written % x, want % x", w.Written(), want)
	}
	c := stream.At(w.Written(), 0)
	n, plain, counted, empty := c.Number(), c.Take(2), c.Counted(), c.Counted()
	if n != 300 || plain != "ab" || counted != "cde" || empty != "" {
		t.Errorf("read %d, %q, %q, %q", n, plain, counted, empty)
	}
	c.End()
	if c.Err() != api.OK || c.Place() != 9 {
		t.Errorf("at the end: %d, %d", c.Err(), c.Place())
	}
}

func TestWriterHasNoBytesBelowZero(t *testing.T) {
	var w stream.Writer
	w.Number(-1)
	w.Number(math.MinInt)
	if w.Written() != "" {
		t.Errorf("written % x", w.Written())
	}
}

func TestCursorStartsInBounds(t *testing.T) {
	for _, at := range []int{-1, 3, math.MinInt, math.MaxInt} {
		c := stream.At("ab", at)
		if text := c.Take(0); text != "" || c.Err() != api.ErrRange {
			t.Errorf("at %d: %q, %d", at, text, c.Err())
		}
	}
	c := stream.At("ab", 2)
	if c.End(); c.Err() != api.OK || c.Place() != 2 {
		t.Errorf("at the end: %d, %d", c.Err(), c.Place())
	}
}

func TestCursorTakesNoMoreThanThereIs(t *testing.T) {
	for _, many := range []int{-1, 3, math.MinInt, math.MaxInt} {
		c := stream.At("xab", 1)
		if text := c.Take(many); text != "" || c.Err() != api.ErrData {
			t.Errorf("Take(%d) = %q, %d", many, text, c.Err())
		}
	}
}

func TestCursorKeepsItsFirstError(t *testing.T) {
	c := stream.At("\x05ab\x01z", 0)
	if text := c.Counted(); text != "" || c.Err() != api.ErrData {
		t.Fatalf("Counted = %q, %d", text, c.Err())
	}
	c.Fail(api.ErrSum)
	if n, text, counted := c.Number(), c.Take(1), c.Counted(); n != 0 || text != "" || counted != "" {
		t.Errorf("behind an error it reads %d, %q, %q", n, text, counted)
	}
	c.End()
	if c.Err() != api.ErrData {
		t.Errorf("the first error is now %d", c.Err())
	}
}

func TestCursorFailsWhereBytesAreLeft(t *testing.T) {
	c := stream.At("a", 0)
	if c.End(); c.Err() != api.ErrData {
		t.Errorf("End with a byte left: %d", c.Err())
	}
}
