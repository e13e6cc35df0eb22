package numbers_test

import (
	"encoding/binary"
	"math"
	"strings"
	"testing"

	"bourne/numbers"
)

// bytesOf gives the bytes of numbers, by the library's means.
func bytesOf(xs ...int) string {
	var out []byte
	for _, x := range xs {
		out = binary.AppendVarint(out, int64(x))
	}
	return string(out)
}

// wantRead holds what a reader gives against numbers, and behind them nothing.
func wantRead(t *testing.T, s string, want ...int) {
	t.Helper()
	r := numbers.Read(s)
	for i, x := range want {
		if r.AtEnd() {
			t.Errorf("P7.1: %x: at its end behind %d numbers; want %d", s, i, len(want))
		}
		if got := r.Next(); got != x {
			t.Errorf("P7.1: %x: number %d is %d; want %d", s, i, got, x)
		}
	}
	if !r.AtEnd() {
		t.Errorf("P7.1: %x: not at its end behind %d numbers", s, len(want))
	}
	if x := r.Next(); x != 0 || r.AtEnd() {
		t.Errorf("P7.1: %x: one number more, %d, at its end %v; want 0, false", s, x, r.AtEnd())
	}
}

// wantFailed holds a reader of a text in which so many numbers are well against zeros behind these, however often it is asked.
func wantFailed(t *testing.T, s string, well int) {
	t.Helper()
	r := numbers.Read(s)
	for range well {
		r.Next()
	}
	for range 40 {
		if x := r.Next(); x != 0 || r.AtEnd() {
			t.Errorf("P7.1: %x: behind %d numbers %d, at its end %v; want 0, false", s, well, x, r.AtEnd())
		}
	}
}

func TestThereAndBack(t *testing.T) {
	row := []int{0, -1, 1, 63, -64, 64, -65, 8191, 8192, 1 << 40, -1 << 40, math.MaxInt, math.MinInt, 0, 0, 7}
	for n := range len(row) + 1 {
		var one, each numbers.Writer
		one.Put(row[:n]...)
		for _, x := range row[:n] {
			each.Put()
			each.Put(x)
		}
		want := bytesOf(row[:n]...)
		if one.Text() != want || each.Text() != want {
			t.Errorf("P7.1: %v: %x, %x; want %x", row[:n], one.Text(), each.Text(), want)
		}
		wantRead(t, want, row[:n]...)
	}
}

// TestGoesOn: a text that was given stays as it is when more is written.
func TestGoesOn(t *testing.T) {
	var w numbers.Writer
	w.Put(1, 2)
	before := w.Text()
	w.Put(3)
	if before != bytesOf(1, 2) || w.Text() != bytesOf(1, 2, 3) {
		t.Errorf("P7.1: %x, then %x", before, w.Text())
	}
}

func TestFails(t *testing.T) {
	for _, c := range []struct {
		s    string
		well int
	}{
		{"", 0}, {"\x80", 0}, {"\x80\x00\x02", 0}, {"\x02\x80", 1}, {"\x02\x80\x00\x04", 1}, {"\x02\x04\xff", 2},
		{strings.Repeat("\xff", 10) + "\x02", 0}, {"\x02" + strings.Repeat("\xff", 9) + "\x02\x02", 1},
	} {
		wantFailed(t, c.s, c.well)
	}
}
