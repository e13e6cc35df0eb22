package wire_test

import (
	"encoding/binary"
	"math"
	"strings"
	"sync"
	"testing"

	"bourne/api"
	"bourne/wire"
)

// wantOp holds an operation that may be against its bytes: there and back.
func wantOp(t *testing.T, o api.Op, s string) {
	t.Helper()
	if !wire.May(o) {
		t.Errorf("P9.1: May(%+v): false", o)
	}
	if got, e := wire.Put(o); got != s || e != api.OK {
		t.Errorf("P9.1: Put(%+v): %x, error %d; want %x", o, got, e, s)
	}
	if got, e := wire.Get(s); got != o || e != api.OK {
		t.Errorf("P9.1: Get(%x): %+v, error %d; want %+v", s, got, e, o)
	}
}

// wantNone holds an operation that may not be against the refusals: of it, and of the bytes that it would have had.
func wantNone(t *testing.T, o api.Op) {
	t.Helper()
	if wire.May(o) {
		t.Errorf("P9.1: May(%+v): true", o)
	}
	if got, e := wire.Put(o); got != "" || e != api.ErrWireForm {
		t.Errorf("P9.1: Put(%+v): %x, error %d; want none, error %d", o, got, e, api.ErrWireForm)
	}
}

// wantWrong holds Get's answer to bytes of no operation, beside which all is zero (R2).
func wantWrong(t *testing.T, s string) {
	t.Helper()
	if got, e := wire.Get(s); got != (api.Op{}) || e != api.ErrWireForm {
		t.Errorf("P9.1: Get(%x): %+v, error %d; want none, error %d", s, got, e, api.ErrWireForm)
	}
}

// numbersOf gives the numbers that the chapter has written of o.
func numbersOf(o api.Op) []int {
	switch o.Kind {
	case api.OpSample:
		return []int{o.Kind, o.Source, o.Series, o.Time, o.Value}
	case api.OpMark:
		return []int{o.Kind, o.Source, o.Time}
	}
	return []int{o.Kind}
}

// bytesOf gives the bytes of numbers, by the library's means.
func bytesOf(xs ...int) string {
	var out []byte
	for _, x := range xs {
		out = binary.AppendVarint(out, int64(x))
	}
	return string(out)
}

// numbersIn gives the numbers of which s is the bytes, by the library's means, and whether there are such.
func numbersIn(s string) ([]int, bool) {
	var out []int
	for at := 0; at < len(s); {
		x, n := binary.Varint([]byte(s[at:]))
		if n <= 0 {
			return nil, false
		}
		out = append(out, int(x))
		at += n
	}
	return out, bytesOf(out...) == s
}

// opIn gives the operation of which s is the bytes, by the chapter's words.
func opIn(s string) (api.Op, bool) {
	xs, fine := numbersIn(s)
	switch {
	case !fine || len(xs) == 0:
	case xs[0] == 0 && len(xs) == 5:
		fine = in(xs[1], 0, 7) && in(xs[2], 0, 1048575) && in(xs[3], -1<<40, 1<<40) && in(xs[4], -1<<40, 1<<40)
		return api.Op{Kind: 0, Source: xs[1], Series: xs[2], Time: xs[3], Value: xs[4]}, fine
	case xs[0] == 1 && len(xs) == 3:
		return api.Op{Kind: 1, Source: xs[1], Time: xs[2]}, in(xs[1], 0, 7) && in(xs[2], -1<<42+1, 1<<42)
	case xs[0] == 2 && len(xs) == 1:
		return api.Op{Kind: 2}, true
	}
	return api.Op{}, false
}

// in tells whether x is from low to high.
func in(x int, low int, high int) bool {
	return low <= x && x <= high
}

// wantText holds Get's answer to any bytes against the chapter's words.
func wantText(t *testing.T, s string) {
	t.Helper()
	if o, fine := opIn(s); fine {
		wantOp(t, o, s)
		return
	}
	wantWrong(t, s)
}

// edges gives the numbers from low to high at and about its ends and about zero.
func edges(low int, high int) []int {
	var out []int
	for _, x := range []int{low, low + 1, -65, -64, -1, 0, 1, 63, 64, high - 1, high} {
		if low <= x && x <= high {
			out = append(out, x)
		}
	}
	return out
}

// beyond gives numbers below low and above high.
func beyond(low int, high int) []int {
	return []int{low - 1, low - 2, 2*low - 1, math.MinInt, math.MinInt + 1, high + 1, high + 2, 2*high + 1, math.MaxInt, math.MaxInt - 1}
}

func TestByHand(t *testing.T) {
	for _, c := range []struct {
		o api.Op
		s string
	}{
		{api.Op{}, "\x00\x00\x00\x00\x00"},
		{api.Op{Source: 1, Series: 2, Time: -3, Value: 64}, "\x00\x02\x04\x05\x80\x01"},
		{api.Op{Source: 7, Series: 1048575, Time: 64, Value: -64}, "\x00\x0e\xfe\xff\x7f\x80\x01\x7f"},
		{api.Op{Time: 1 << 40, Value: -1 << 40}, "\x00\x00\x00\x80\x80\x80\x80\x80\x40\xff\xff\xff\xff\xff\x3f"},
		{api.Op{Kind: 1}, "\x02\x00\x00"},
		{api.Op{Kind: 1, Source: 7, Time: 5}, "\x02\x0e\x0a"},
		{api.Op{Kind: 1, Source: 3, Time: 1 << 42}, "\x02\x06\x80\x80\x80\x80\x80\x80\x02"},
		{api.Op{Kind: 1, Source: 3, Time: 1 - 1<<42}, "\x02\x06\xfd\xff\xff\xff\xff\xff\x01"},
		{api.Op{Kind: 2}, "\x04"},
	} {
		wantOp(t, c.o, c.s)
	}
}

// TestWithin holds each operation whose numbers stand at the ends of what they may be, or about zero.
func TestWithin(t *testing.T) {
	for source := range 8 {
		for _, time := range edges(-api.MaxTime, api.MaxTime) {
			for _, series := range edges(0, api.MaxId) {
				for _, value := range edges(-api.MaxValue, api.MaxValue) {
					o := api.Op{Source: source, Series: series, Time: time, Value: value}
					wantOp(t, o, bytesOf(numbersOf(o)...))
				}
			}
		}
		// A mark may be told of times that no sample has, up to the one that means that there is none.
		for _, time := range append(edges(api.NoMark+1, api.MaxMark), api.MaxTime+1, -api.MaxTime-1) {
			o := api.Op{Kind: api.OpMark, Source: source, Time: time}
			wantOp(t, o, bytesOf(numbersOf(o)...))
		}
	}
}

// TestBeyond holds each number that is too small or too great, alone and beside others that are.
func TestBeyond(t *testing.T) {
	well := []api.Op{{}, {Source: 7, Series: api.MaxId, Time: api.MaxTime, Value: api.MaxValue}, {Source: 3, Series: 5, Time: -api.MaxTime, Value: -api.MaxValue}}
	for _, o := range well {
		for _, c := range []struct {
			field     *int
			low, high int
		}{{&o.Source, 0, 7}, {&o.Series, 0, api.MaxId}, {&o.Time, -api.MaxTime, api.MaxTime}, {&o.Value, -api.MaxValue, api.MaxValue}} {
			wantAllBeyond(t, &o, c.field, c.low, c.high)
		}
	}
	for _, o := range []api.Op{{Kind: api.OpMark}, {Kind: api.OpMark, Source: 7, Time: api.MaxMark}, {Kind: api.OpMark, Source: 2, Time: api.NoMark + 1}} {
		wantAllBeyond(t, &o, &o.Source, 0, 7)
		wantAllBeyond(t, &o, &o.Time, api.NoMark+1, api.MaxMark)
	}
	wantNone(t, api.Op{Source: -1, Series: -1, Time: math.MinInt, Value: math.MaxInt})
}

// wantAllBeyond holds o with a field of it beyond its ends against the refusals, then gives it back what it had.
func wantAllBeyond(t *testing.T, o *api.Op, field *int, low int, high int) {
	t.Helper()
	had := *field
	defer func() { *field = had }()
	for _, x := range beyond(low, high) {
		*field = x
		wantNone(t, *o)
		wantWrong(t, bytesOf(numbersOf(*o)...))
	}
}

// TestNotNamed: all that a Kind does not name is zero.
func TestNotNamed(t *testing.T) {
	for _, x := range []int{1, -1, 2, 7, api.MaxId, math.MaxInt, math.MinInt} {
		for _, o := range []api.Op{
			{Kind: api.OpMark, Series: x}, {Kind: api.OpMark, Value: x}, {Kind: api.OpMark, Source: 7, Time: 5, Series: x}, {Kind: api.OpMark, Source: 7, Time: 5, Value: x},
			{Kind: api.OpSwitch, Source: x}, {Kind: api.OpSwitch, Series: x}, {Kind: api.OpSwitch, Time: x}, {Kind: api.OpSwitch, Value: x},
		} {
			wantNone(t, o)
		}
		wantWrong(t, bytesOf(api.OpMark, 7, 5, x))
		wantWrong(t, bytesOf(api.OpMark, 7, x, 5, x))
		wantWrong(t, bytesOf(api.OpSwitch, x))
	}
	// Zeros that are not named are not written either.
	wantWrong(t, bytesOf(api.OpSwitch, 0))
	wantWrong(t, bytesOf(api.OpSwitch, 0, 0, 0, 0))
	wantWrong(t, bytesOf(api.OpMark, 7, 5, 0))
	wantWrong(t, bytesOf(api.OpMark, 7, 0, 5, 0))
}

func TestKinds(t *testing.T) {
	for _, kind := range []int{api.OpBad, 4, 5, 6, 64, -1, -2, 128, 256, 1 << 32, math.MaxInt, math.MinInt} {
		for _, o := range []api.Op{{Kind: kind}, {Kind: kind, Value: 1}, {Kind: kind, Source: 1, Time: 2}, {Kind: kind, Source: 1, Series: 2, Time: 3, Value: 4}} {
			wantNone(t, o)
			wantWrong(t, bytesOf(kind))
			wantWrong(t, bytesOf(kind, o.Value))
			wantWrong(t, bytesOf(kind, o.Source, o.Time))
			wantWrong(t, bytesOf(kind, o.Source, o.Series, o.Time, o.Value))
		}
	}
}

// TestAllSmallTexts holds texts of up to three bytes, all of them that begin as an operation does, against the chapter's words; no operation but a mark and a switch is so short.
func TestAllSmallTexts(t *testing.T) {
	wantText(t, "")
	switches, marks := 0, 0
	for a := range 256 {
		for b := range 256 {
			for c := range 256 {
				s := string([]byte{byte(a), byte(b), byte(c)})
				if o, e := wire.Get(s); e == api.OK {
					marks += o.Kind
				}
				if b|c == 0 {
					wantText(t, s[:1])
				}
				if c == 0 {
					wantText(t, s[:2])
				}
				if a < 6 || a%128 < 2 {
					wantText(t, s)
				}
			}
		}
		if o, e := wire.Get(string([]byte{byte(a)})); e == api.OK {
			switches += o.Kind
		}
	}
	// Of each of eight sources, at each time of seven bits.
	if switches != api.OpSwitch || marks != 8*128*api.OpMark {
		t.Errorf("P9.1: %d, %d; want %d, %d", switches, marks, api.OpSwitch, 8*128)
	}
}

// TestSmallBytes holds all texts of four to six bytes of those that matter.
func TestSmallBytes(t *testing.T) {
	few := []byte{0, 1, 2, 4, 14, 16, 128, 255}
	var grow func(s []byte)
	grow = func(s []byte) {
		if len(s) >= 4 {
			wantText(t, string(s))
		}
		if len(s) == 6 {
			return
		}
		for _, b := range few {
			grow(append(s, b))
		}
	}
	grow(make([]byte, 0, 6))
}

// TestJustSuch: bytes too few, too many, or other ones are no operation, or another one.
func TestJustSuch(t *testing.T) {
	for _, o := range []api.Op{
		{}, {Source: 1, Series: 2, Time: -3, Value: 64}, {Source: 7, Series: api.MaxId, Time: api.MaxTime, Value: -api.MaxValue},
		{Kind: 1}, {Kind: 1, Source: 7, Time: api.MaxMark}, {Kind: 1, Source: 4, Time: -70}, {Kind: 2},
	} {
		s := bytesOf(numbersOf(o)...)
		wantOp(t, o, s)
		for n := range len(s) {
			wantText(t, s[:n])
			wantText(t, s[n+1:])
			for b := range 256 {
				wantText(t, s[:n]+string([]byte{byte(b)})+s[n+1:])
			}
		}
		for b := range 256 {
			wantWrong(t, s+string([]byte{byte(b)}))
			wantText(t, string([]byte{byte(b)})+s)
		}
		wantWrong(t, s+s)
		wantWrong(t, s+strings.Repeat("\x00", 40))
		wantWrong(t, s+strings.Repeat("\xff", 40))
		wantLongerNumbers(t, numbersOf(o))
	}
}

// wantLongerNumbers writes each number with a byte more than it needs, or with ten of them, which is no number's form.
func wantLongerNumbers(t *testing.T, xs []int) {
	t.Helper()
	for i := range xs {
		ahead, one, behind := bytesOf(xs[:i]...), []byte(bytesOf(xs[i])), bytesOf(xs[i+1:]...)
		one[len(one)-1] |= 128
		for zeros := range 9 {
			wantWrong(t, ahead+string(one)+strings.Repeat("\x80", zeros)+"\x00"+behind)
		}
		wantWrong(t, ahead+strings.Repeat("\xff", 10)+behind)
		wantWrong(t, ahead+strings.Repeat("\xff", 9)+"\x02"+behind)
	}
}

// TestTooFewNumbers: what is not there is not zero.
func TestTooFewNumbers(t *testing.T) {
	for n := range 5 {
		wantWrong(t, strings.Repeat("\x00", n))
	}
	wantWrong(t, "\x02")
	wantWrong(t, "\x02\x00")
	wantWrong(t, "\x80")
	wantWrong(t, "\x84")
}

// TestLongTexts: a text without end is not read through.
func TestLongTexts(t *testing.T) {
	for _, s := range []string{strings.Repeat("\x00", 1<<24), strings.Repeat("\x04", 1<<24), strings.Repeat("\xff", 1<<24)} {
		for range 1000 {
			wantWrong(t, s)
		}
	}
}

// TestTogether: plain functions, from several goroutines at one time (R5).
func TestTogether(t *testing.T) {
	var all sync.WaitGroup
	for i := range 8 {
		all.Go(func() {
			for n := range 500 {
				for _, o := range []api.Op{{Source: i, Series: n, Time: n << 20, Value: -n << 15}, {Kind: 1, Source: i, Time: n - 200}, {Kind: 2}} {
					wantOp(t, o, bytesOf(numbersOf(o)...))
				}
				wantNone(t, api.Op{Kind: 3 + n})
			}
		})
	}
	all.Wait()
}
