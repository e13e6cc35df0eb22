package record_test

import (
	"encoding/binary"
	"math"
	"reflect"
	"slices"
	"strings"
	"sync"
	"testing"

	"bourne/api"
	"bourne/record"
)

// alike tells whether two records are, an empty Hist and none being one.
func alike(a api.Rec, b api.Rec) bool {
	if !slices.Equal(a.Result.Out.Hist, b.Result.Out.Hist) {
		return false
	}
	a.Result.Out.Hist, b.Result.Out.Hist = nil, nil
	return reflect.DeepEqual(a, b)
}

// wantRec holds a record that may be against its bytes: there and back.
func wantRec(t *testing.T, r api.Rec, s string) {
	t.Helper()
	if !record.May(r) {
		t.Errorf("P10.1: May(%+v): false", r)
	}
	if got, e := record.Put(r); got != s || e != api.OK {
		t.Errorf("P10.1: Put(%+v): %x, error %d; want %x", r, got, e, s)
	}
	if got, e := record.Get(s); !alike(got, r) || e != api.OK {
		t.Errorf("P10.1: Get(%x): %+v, error %d; want %+v", s, got, e, r)
	}
}

// wantNone holds a record that may not be against the refusals.
func wantNone(t *testing.T, r api.Rec) {
	t.Helper()
	if record.May(r) {
		t.Errorf("P10.1: May(%+v): true", r)
	}
	if got, e := record.Put(r); got != "" || e != api.ErrRecordForm {
		t.Errorf("P10.1: Put(%+v): %x, error %d; want none, error %d", r, got, e, api.ErrRecordForm)
	}
}

// wantWrong holds Get's answer to bytes of no record, beside which all is zero (R2).
func wantWrong(t *testing.T, s string) {
	t.Helper()
	if got, e := record.Get(s); !alike(got, api.Rec{}) || e != api.ErrRecordForm {
		t.Errorf("P10.1: Get(%x): %+v, error %d; want none, error %d", s, got, e, api.ErrRecordForm)
	}
}

// bytesOf gives the bytes of numbers, by the library's means.
func bytesOf(xs ...int) string {
	var out []byte
	for _, x := range xs {
		out = binary.AppendVarint(out, int64(x))
	}
	return string(out)
}

// numbersIn gives the numbers of which s is the bytes, by the library's means, and whether there are such.
func numbersIn(s string) ([]int, bool) {
	var out []int
	for at := 0; at < len(s); {
		x, n := binary.Varint([]byte(s[at:min(at+11, len(s))]))
		if n <= 0 {
			return nil, false
		}
		out = append(out, int(x))
		at += n
	}
	return out, bytesOf(out...) == s
}

// numbersOf gives the numbers that the chapter has written of r.
func numbersOf(r api.Rec) []int {
	switch r.Kind {
	case 0:
		x, over := r.Result, 0
		if x.Out.Over {
			over = 1
		}
		return append([]int{0, x.Query, x.Series, x.Span.Start, x.Span.End, x.Out.Value, over, len(x.Out.Hist)}, x.Out.Hist...)
	case 1, 2, 3:
		return []int{r.Kind, r.Series, r.Time, r.Seq}
	case 5:
		return []int{5, r.Bytes}
	}
	return []int{r.Kind}
}

// recOf gives the record of which xs are the numbers, by the chapter's words.
func recOf(xs []int) (api.Rec, bool) {
	switch {
	case len(xs) >= 8 && xs[0] == 0:
		hist := xs[8:]
		x := api.Result{Query: xs[1], Series: xs[2], Span: api.Span{Start: xs[3], End: xs[4]}, Out: api.Out{Value: xs[5], Over: xs[6] == 1, Hist: hist}}
		fine := in(xs[1], 0, 7) && in(xs[2], 0, 1048575) && in(xs[3], -1<<42, 1<<42) && in(xs[4], xs[3]+1, 1<<42) && in(xs[6], 0, 1)
		fine = fine && in(xs[5], -72057594037927940, 72057594037927940) && xs[5]*xs[6] == 0 && len(hist) == xs[7] && len(hist) <= 9
		for _, n := range hist {
			fine = fine && in(n, 0, 8192)
		}
		return api.Rec{Result: x}, fine
	case len(xs) == 4 && in(xs[0], 1, 3):
		return api.Rec{Kind: xs[0], Series: xs[1], Time: xs[2], Seq: xs[3]}, in(xs[1], 0, 1048575) && in(xs[2], -1<<40, 1<<40) && in(xs[3], 1, 1073741823)
	case len(xs) == 1 && xs[0] == 4:
		return api.Rec{Kind: 4}, true
	case len(xs) == 2 && xs[0] == 5:
		return api.Rec{Kind: 5, Bytes: xs[1]}, in(xs[1], 1, 1073741823)
	}
	return api.Rec{}, false
}

// in tells whether x is from low to high.
func in(x int, low int, high int) bool {
	return low <= x && x <= high
}

// wantText holds Get's answer to any bytes against the chapter's words.
func wantText(t *testing.T, s string) {
	t.Helper()
	if xs, fine := numbersIn(s); fine {
		if r, fine := recOf(xs); fine {
			wantRec(t, r, s)
			return
		}
	}
	wantWrong(t, s)
}

// wantBoth holds a record and its numbers' bytes against the chapter's words, be it one that may be or not.
func wantBoth(t *testing.T, r api.Rec) {
	t.Helper()
	xs := numbersOf(r)
	if _, fine := recOf(xs); !fine {
		wantNone(t, r)
	}
	wantText(t, bytesOf(xs...))
}

// edges gives the numbers from low to high at and about its ends and about zero.
func edges(low int, high int) []int {
	var out []int
	for _, x := range []int{low, low + 1, -65, -1, 0, 1, 64, high - 1, high} {
		if low <= x && x <= high {
			out = append(out, x)
		}
	}
	return out
}

// beyond gives numbers below low and above high.
func beyond(low int, high int) []int {
	return []int{low - 1, low - 2, low - 1<<33, math.MinInt, math.MinInt + 1, high + 1, high + 2, high + 1<<33, math.MaxInt, math.MaxInt - 1}
}

// window gives the record of a window with so much told of it.
func window(start int, end int, out api.Out) api.Rec {
	return api.Rec{Result: api.Result{Span: api.Span{Start: start, End: end}, Out: out}}
}

// some gives records of each Kind, with small numbers and with those at the limits.
func some() []api.Rec {
	full := make([]int, 9)
	for i := range full {
		full[i] = 8192 - i
	}
	most := window(-1<<42, 1<<42, api.Out{Value: -api.MaxTotal, Hist: full})
	most.Result.Query, most.Result.Series = 7, api.MaxId
	return []api.Rec{
		window(0, 1, api.Out{}), window(-3, 3, api.Out{Value: -5}), window(-70, -60, api.Out{Over: true}), window(5, 900, api.Out{Hist: []int{1, 0, 3}}),
		window(5, 900, api.Out{Over: true, Hist: []int{0}}), most,
		{Kind: 1, Seq: 1}, {Kind: 1, Series: 1, Time: -2, Seq: 3}, {Kind: 2, Series: 64, Time: 64, Seq: 64}, {Kind: 2, Series: api.MaxId, Time: api.MaxTime, Seq: api.MaxSeq},
		{Kind: 3, Series: 9, Time: -api.MaxTime, Seq: 200}, {Kind: 4}, {Kind: 5, Bytes: 1}, {Kind: 5, Bytes: 64}, {Kind: 5, Bytes: api.MaxBad},
	}
}

func TestByHand(t *testing.T) {
	large := window(-1<<42, 1<<42, api.Out{Value: 1 << 40, Hist: []int{64, 8192}})
	large.Result.Query, large.Result.Series = 7, 1048575
	for _, c := range []struct {
		r api.Rec
		s string
	}{
		{window(0, 1, api.Out{}), "\x00\x00\x00\x00\x02\x00\x00\x00"},
		{api.Rec{Result: api.Result{Query: 1, Series: 2, Span: api.Span{Start: -3, End: 4}, Out: api.Out{Value: -6}}}, "\x00\x02\x04\x05\x08\x0b\x00\x00"},
		{window(-2, -1, api.Out{Over: true}), "\x00\x00\x00\x03\x01\x00\x02\x00"},
		{window(0, 1, api.Out{Hist: []int{1, 2, 3}}), "\x00\x00\x00\x00\x02\x00\x00\x06\x02\x04\x06"},
		{window(0, 1, api.Out{Over: true, Hist: make([]int, 9)}), "\x00\x00\x00\x00\x02\x00\x02\x12" + strings.Repeat("\x00", 9)},
		{large, "\x00\x0e\xfe\xff\x7f\xff\xff\xff\xff\xff\xff\x01\x80\x80\x80\x80\x80\x80\x02\x80\x80\x80\x80\x80\x40\x00\x04\x80\x01\x80\x80\x01"},
		{window(0, 1, api.Out{Value: 72057594037927940}), "\x00\x00\x00\x00\x02\x88\x80\x80\x80\x80\x80\x80\x80\x02\x00\x00"},
		{window(0, 1, api.Out{Value: -72057594037927940}), "\x00\x00\x00\x00\x02\x87\x80\x80\x80\x80\x80\x80\x80\x02\x00\x00"},
		{api.Rec{Kind: 1, Seq: 1}, "\x02\x00\x00\x02"},
		{api.Rec{Kind: 2, Series: 3, Time: -4, Seq: 5}, "\x04\x06\x07\x0a"},
		{api.Rec{Kind: 3, Series: 64, Time: 1 << 40, Seq: 1073741823}, "\x06\x80\x01\x80\x80\x80\x80\x80\x40\xfe\xff\xff\xff\x07"},
		{api.Rec{Kind: 4}, "\x08"},
		{api.Rec{Kind: 5, Bytes: 1}, "\x0a\x02"},
		{api.Rec{Kind: 5, Bytes: 1073741823}, "\x0a\xfe\xff\xff\xff\x07"},
	} {
		wantRec(t, c.r, c.s)
	}
}

// TestShort: a record is no longer than a frame's body may be.
func TestShort(t *testing.T) {
	for _, r := range some() {
		if s, e := record.Put(r); len(s) > api.MaxBody || e != api.OK {
			t.Errorf("P10.1: Put(%+v): %d bytes, error %d; want at most %d", r, len(s), e, api.MaxBody)
		}
	}
}

// TestWithinResult holds each window whose numbers stand at the ends of what they may be, or about zero.
func TestWithinResult(t *testing.T) {
	values := edges(-api.MaxTotal, api.MaxTotal)
	times := append(edges(api.NoMark, api.MaxMark), api.MaxTime+1, -api.MaxTime-1)
	for query := range 8 {
		for _, series := range edges(0, api.MaxId) {
			for _, start := range times {
				for i, end := range times {
					r := window(start, end, api.Out{Value: values[(query+i)%len(values)]})
					r.Result.Query, r.Result.Series = query, series
					wantBoth(t, r)
					r.Result.Out = api.Out{Over: true, Hist: []int{i, query}}
					wantBoth(t, r)
				}
			}
		}
	}
	for _, value := range values {
		wantBoth(t, window(-1, 1, api.Out{Value: value}))
		// Of what is Over no Value is told.
		wantBoth(t, window(-1, 1, api.Out{Value: value, Over: true}))
		wantBoth(t, window(-1, 1, api.Out{Value: value, Hist: []int{3}}))
		wantBoth(t, window(-1, 1, api.Out{Value: value, Over: true, Hist: []int{3}}))
	}
}

func TestSpans(t *testing.T) {
	for start := range 40 {
		for end := range 40 {
			r := window(start-20, end-20, api.Out{})
			if record.May(r) != (start < end) {
				t.Errorf("P10.1: May(%+v): %v", r, start >= end)
			}
			wantBoth(t, r)
		}
	}
	for _, low := range []int{api.NoMark, api.MaxMark - 9} {
		for start := range 10 {
			for end := range 10 {
				wantBoth(t, window(low+start, low+end, api.Out{Value: 1}))
			}
		}
	}
}

// TestHists holds each length of a Hist, and each number of one that is too small or too great.
func TestHists(t *testing.T) {
	for length := range 30 {
		for _, most := range []int{0, 1, 63, 64, 8191, 8192} {
			hist := make([]int, length)
			for i := range hist {
				hist[i] = (i*7 + most) % (most + 1)
			}
			r := window(0, 1, api.Out{Hist: hist})
			if record.May(r) != (length <= 9) {
				t.Errorf("P10.1: May of a Hist of %d: %v", length, length > 9)
			}
			wantBoth(t, r)
			for i := range hist {
				wantAllBeyond(t, &r, &hist[i], 0, 8192)
			}
		}
	}
	wantRec(t, window(0, 1, api.Out{Hist: []int{}}), bytesOf(0, 0, 0, 0, 1, 0, 0, 0))
	wantNone(t, window(0, 1, api.Out{Hist: make([]int, 1<<24)}))
}

// TestHistLength: a length that is another one than that of what comes.
func TestHistLength(t *testing.T) {
	for n := range 12 {
		for length := -3; length < 30; length++ {
			xs := append([]int{0, 0, 0, 0, 1, 0, 0, length}, make([]int, n)...)
			wantText(t, bytesOf(xs...))
		}
		for _, length := range []int{math.MaxInt, math.MinInt, 1 << 20, 1 << 32, 1 << 62, -1 << 62} {
			wantWrong(t, bytesOf(append([]int{0, 0, 0, 0, 1, 0, 0, length}, make([]int, n)...)...))
		}
	}
}

// TestOver: 1 or 0, no other number.
func TestOver(t *testing.T) {
	for over := -70; over < 70; over++ {
		for _, value := range []int{0, 1, -1} {
			wantText(t, bytesOf(0, 1, 2, 3, 4, value, over, 0))
			wantText(t, bytesOf(0, 1, 2, 3, 4, value, over, 1, 5))
		}
	}
	for _, over := range []int{math.MaxInt, math.MinInt, 1 << 32, 1<<32 + 1, 1 << 62, 257} {
		wantWrong(t, bytesOf(0, 1, 2, 3, 4, 0, over, 0))
	}
}

// TestWithinOthers holds each record of another Kind whose numbers stand at the ends of what they may be, or about zero.
func TestWithinOthers(t *testing.T) {
	for kind := 1; kind <= 3; kind++ {
		for _, series := range edges(0, api.MaxId) {
			for _, time := range edges(-api.MaxTime, api.MaxTime) {
				for _, seq := range edges(1, api.MaxSeq) {
					r := api.Rec{Kind: kind, Series: series, Time: time, Seq: seq}
					wantRec(t, r, bytesOf(kind, series, time, seq))
				}
			}
		}
	}
	for _, bytes := range edges(1, api.MaxBad) {
		wantRec(t, api.Rec{Kind: 5, Bytes: bytes}, bytesOf(5, bytes))
	}
	wantRec(t, api.Rec{Kind: 4}, bytesOf(4))
}

// TestBeyond holds each number that is too small or too great, in each record.
func TestBeyond(t *testing.T) {
	for _, r := range some() {
		switch r.Kind {
		case 0:
			x := &r.Result
			wantAllBeyond(t, &r, &x.Query, 0, 7)
			wantAllBeyond(t, &r, &x.Series, 0, api.MaxId)
			wantAllBeyond(t, &r, &x.Span.Start, api.NoMark, x.Span.End-1)
			wantAllBeyond(t, &r, &x.Span.End, x.Span.Start+1, api.MaxMark)
			wantAllBeyond(t, &r, &x.Out.Value, -api.MaxTotal, api.MaxTotal)
		case 1, 2, 3:
			wantAllBeyond(t, &r, &r.Series, 0, api.MaxId)
			wantAllBeyond(t, &r, &r.Time, -api.MaxTime, api.MaxTime)
			wantAllBeyond(t, &r, &r.Seq, 1, api.MaxSeq)
		case 5:
			wantAllBeyond(t, &r, &r.Bytes, 1, api.MaxBad)
		}
	}
	wantNone(t, api.Rec{})
	wantNone(t, api.Rec{Kind: 1})
	wantNone(t, api.Rec{Kind: 5})
}

// wantAllBeyond holds r with a field of it beyond its ends against the refusals, then gives it back what it had.
func wantAllBeyond(t *testing.T, r *api.Rec, field *int, low int, high int) {
	t.Helper()
	had := *field
	defer func() { *field = had }()
	for _, x := range beyond(low, high) {
		*field = x
		wantNone(t, *r)
		wantWrong(t, bytesOf(numbersOf(*r)...))
	}
}

// TestNotNamed: all that a Kind does not name is zero.
func TestNotNamed(t *testing.T) {
	for _, r := range some() {
		x := &r.Result
		samples, results := []*int{&r.Series, &r.Time, &r.Seq}, []*int{&x.Query, &x.Series, &x.Span.Start, &x.Span.End, &x.Out.Value}
		var others []*int
		if r.Kind == 0 || r.Kind == 4 || r.Kind == 5 {
			others = append(others, samples...)
		}
		if r.Kind != 5 {
			others = append(others, &r.Bytes)
		}
		if r.Kind != 0 {
			others = append(others, results...)
			x.Out.Over = true
			wantNone(t, r)
			x.Out.Over = false
			for length := 1; length < 11; length++ {
				x.Out.Hist = make([]int, length)
				wantNone(t, r)
			}
			x.Out.Hist = []int{}
			wantRec(t, r, bytesOf(numbersOf(r)...))
		}
		for _, field := range others {
			for _, n := range []int{1, -1, 2, 7, api.MaxId, math.MaxInt, math.MinInt} {
				*field = n
				wantNone(t, r)
			}
			*field = 0
		}
		wantRec(t, r, bytesOf(numbersOf(r)...))
	}
	// A window is not told of where there is none, whatever else there is.
	for kind := 1; kind <= 5; kind++ {
		wantNone(t, api.Rec{Kind: kind, Seq: 1, Bytes: 1})
		wantNone(t, api.Rec{Kind: kind, Seq: 1, Result: window(0, 1, api.Out{}).Result})
		wantNone(t, api.Rec{Kind: kind, Bytes: 1, Result: window(0, 1, api.Out{}).Result})
	}
}

func TestKinds(t *testing.T) {
	for _, kind := range []int{6, 7, 64, -1, -2, -5, 128, 256, 1 << 32, 1<<32 + 1, math.MaxInt, math.MinInt} {
		for _, r := range some() {
			xs := numbersOf(r)
			r.Kind, xs[0] = kind, kind
			wantNone(t, r)
			wantWrong(t, bytesOf(xs...))
		}
		wantNone(t, api.Rec{Kind: kind})
		wantWrong(t, bytesOf(kind))
	}
	// Bytes of the one Kind are not those of another one.
	for kind := range 8 {
		for _, r := range some() {
			xs := numbersOf(r)
			xs[0] = kind
			wantText(t, bytesOf(xs...))
		}
	}
}

// TestAllSmallTexts holds texts of up to three bytes, all of them that begin as a record does.
func TestAllSmallTexts(t *testing.T) {
	wantText(t, "")
	bads := 0
	for a := range 256 {
		wantText(t, string([]byte{byte(a)}))
		for b := range 256 {
			wantText(t, string([]byte{byte(a), byte(b)}))
			for c := range 256 {
				s := string([]byte{byte(a), byte(b), byte(c)})
				if _, e := record.Get(s); e == api.OK {
					bads++
				}
				if a == 10 || a < 16 && c < 3 {
					wantText(t, s)
				}
			}
		}
	}
	// How many were none, from 64 on: a number of two bytes.
	if want := 1<<13 - 64; bads != want {
		t.Errorf("P10.1: %d texts of three bytes; want %d", bads, want)
	}
}

// TestSmallBytes holds all texts of four and of eight to ten bytes of those that matter.
func TestSmallBytes(t *testing.T) {
	var grow func(s []byte, few []byte, length int)
	grow = func(s []byte, few []byte, length int) {
		if len(s) == length {
			wantText(t, string(s))
			return
		}
		for _, b := range few {
			grow(append(s, b), few, length)
		}
	}
	grow(make([]byte, 0, 16), []byte{0, 1, 2, 3, 4, 6, 8, 10, 12, 16, 128, 255}, 4)
	for length := 8; length <= 10; length++ {
		grow(append(make([]byte, 0, 16), 0, 2, 2), []byte{0, 1, 2, 4}, length)
	}
}

// TestJustSuch: bytes too few, too many, or other ones are no record, or another one.
func TestJustSuch(t *testing.T) {
	for _, r := range some() {
		s := bytesOf(numbersOf(r)...)
		wantRec(t, r, s)
		for n := range len(s) {
			wantText(t, s[:n])
			wantText(t, s[n+1:])
			for b := range 256 {
				wantText(t, s[:n]+string([]byte{byte(b)})+s[n+1:])
			}
		}
		for b := range 256 {
			wantWrong(t, s+string([]byte{byte(b)}))
			wantText(t, string([]byte{byte(b)})+s)
		}
		wantWrong(t, s+s)
		wantWrong(t, s+strings.Repeat("\x00", 40))
		wantWrong(t, s+strings.Repeat("\xff", 40))
		wantLongerNumbers(t, numbersOf(r))
	}
}

// wantLongerNumbers writes each number with a byte more than it needs, or with ten of them, which is no number's form.
func wantLongerNumbers(t *testing.T, xs []int) {
	t.Helper()
	for i := range xs {
		ahead, one, behind := bytesOf(xs[:i]...), []byte(bytesOf(xs[i])), bytesOf(xs[i+1:]...)
		one[len(one)-1] |= 128
		for zeros := range 9 {
			wantWrong(t, ahead+string(one)+strings.Repeat("\x80", zeros)+"\x00"+behind)
		}
		wantWrong(t, ahead+strings.Repeat("\xff", 10)+behind)
		wantWrong(t, ahead+strings.Repeat("\xff", 9)+"\x02"+behind)
	}
}

// TestTooFewNumbers: what is not there is not zero.
func TestTooFewNumbers(t *testing.T) {
	for n := range 8 {
		wantWrong(t, strings.Repeat("\x00", n))
	}
	for n := range 8 {
		wantWrong(t, ("\x00\x00\x00\x00\x02\x00\x00\x00")[:n])
		wantWrong(t, ("\x00\x00\x00\x01\x00\x00\x00\x02")[:n])
	}
	// An End at 0 that is not there may be above its Start.
	wantWrong(t, "\x00\x00\x00\x01")
	for n := range 9 {
		wantWrong(t, "\x00\x00\x00\x00\x02\x00\x00\x12"+strings.Repeat("\x00", n))
	}
}

// TestLongTexts: a text without end is not read through.
func TestLongTexts(t *testing.T) {
	for _, s := range []string{strings.Repeat("\x00", 1<<24), "\x00\x00\x00\x00\x02\x00\x00\x12" + strings.Repeat("\x00", 1<<24), "\x00\x00\x00\x00\x02\x00\x00\xfe\xff\xff\x07" + strings.Repeat("\x00", 1<<24), strings.Repeat("\x08", 1<<24), strings.Repeat("\xff", 1<<24)} {
		for range 1000 {
			if _, e := record.Get(s); e != api.ErrRecordForm {
				t.Fatalf("P10.1: Get of %d bytes from %x: error %d; want %d", len(s), s[:12], e, api.ErrRecordForm)
			}
		}
	}
}

// TestShared: what is handed in is not changed, its spare room neither, and no two answers share a Hist (R4).
func TestShared(t *testing.T) {
	room := []int{1, 2, 3, 70, 80}
	r := window(0, 1, api.Out{Hist: room[:3]})
	s, _ := record.Put(r)
	record.May(r)
	if !slices.Equal(room, []int{1, 2, 3, 70, 80}) {
		t.Errorf("P10.1: R4: Put changed the Hist: %v", room)
	}
	a, _ := record.Get(s)
	b, _ := record.Get(s)
	a.Result.Out.Hist[0] = 9
	_ = append(a.Result.Out.Hist, 9, 9, 9)
	if !slices.Equal(b.Result.Out.Hist, []int{1, 2, 3}) || !slices.Equal(room, []int{1, 2, 3, 70, 80}) {
		t.Errorf("P10.1: R4: an answer shares its Hist: %v, %v", b.Result.Out.Hist, room)
	}
	if again, e := record.Get(s); !alike(again, r) || e != api.OK {
		t.Errorf("P10.1: R4: Get(%x): %+v, error %d; want %+v", s, again, e, r)
	}
}

// TestTogether: plain functions, from several goroutines at one time (R5).
func TestTogether(t *testing.T) {
	rs := some()
	var all sync.WaitGroup
	for range 8 {
		all.Go(func() {
			for n := range 200 {
				for _, r := range rs {
					wantRec(t, r, bytesOf(numbersOf(r)...))
				}
				wantNone(t, api.Rec{Kind: 6 + n})
			}
		})
	}
	all.Wait()
}
