package tree_test

import (
	"math"
	"reflect"
	"slices"
	"sync"
	"testing"

	"bourne/acc"
	"bourne/api"
	"bourne/rules"
	"bourne/tree"
)

// numbers is a row of numbers that looks like none.
type numbers uint32

// next gives one from 0 to below n.
func (s *numbers) next(n int) int {
	*s = *s*1664525 + 1013904223
	return int(*s>>8) % n
}

// item gives one of series 3 out of few, so that many stand alike and have unlike values.
func (s *numbers) item() api.Item {
	return api.Item{Series: 3, Time: s.next(12) - 6, Seq: 1 + s.next(4), Value: s.next(13) - 6}
}

// span gives one of few, some of which have no time.
func (s *numbers) span() api.Span {
	return api.Span{Start: s.next(16) - 8, End: s.next(16) - 8}
}

// at gives an item of series 3, of value 10 times its Seq.
func at(time int, seq int) api.Item {
	return api.Item{Series: 3, Time: time, Seq: seq, Value: 10 * seq}
}

// of gives the item of another series.
func of(series int, x api.Item) api.Item {
	x.Series = series
	return x
}

// all is the span of all times.
var all = api.Span{Start: math.MinInt, End: math.MaxInt}

// known gives layer 1's Join of One of all of row that are in s.
func known(t *testing.T, bounds []int, s api.Span, row ...api.Item) api.Acc {
	t.Helper()
	var as []api.Acc
	for _, x := range row {
		if x.Time >= s.Start && x.Time < s.End {
			one, e := acc.One(x, bounds)
			if e != api.OK {
				t.Fatalf("P1.1: One(%v): error %d", x, e)
			}
			as = append(as, one)
		}
	}
	out, e := acc.Join(bounds, as...)
	if e != api.OK {
		t.Fatalf("P1.2: Join of %d: error %d", len(as), e)
	}
	return out
}

// made gives a tree with bounds.
func made(t *testing.T, bounds []int, xs ...api.Item) *tree.Tree {
	t.Helper()
	x, e := tree.New(bounds)
	if e != api.OK || x == nil {
		t.Fatalf("P19.1: New(%v): error %d", bounds, e)
	}
	wantRow(t, x, bounds)
	wantInsert(t, x, api.OK, xs...)
	return x
}

// wantInsert holds what Insert answers against want.
func wantInsert(t *testing.T, x *tree.Tree, want api.Errno, xs ...api.Item) {
	t.Helper()
	if e := x.Insert(xs...); e != want {
		t.Fatalf("P19.1: Insert(%v): error %d; want %d", xs, e, want)
	}
}

// wantRange holds what Range answers against the fold over a plain row.
func wantRange(t *testing.T, x *tree.Tree, bounds []int, s api.Span, row ...api.Item) {
	t.Helper()
	if got, want := x.Range(s), known(t, bounds, s, row...); !reflect.DeepEqual(got, want) {
		t.Fatalf("P19.2: Range(%v) of %v: %v; want %v", s, row, got, want)
	}
}

// wantEvict holds what Evict answers against want.
func wantEvict(t *testing.T, x *tree.Tree, below int, want int) {
	t.Helper()
	if got := x.Evict(below); got != want {
		t.Fatalf("P19.2: Evict(%d): %d; want %d", below, got, want)
	}
}

// wantRow holds Items, and Range of all, against a row that is sorted.
func wantRow(t *testing.T, x *tree.Tree, bounds []int, row ...api.Item) {
	t.Helper()
	if got := x.Items(); !slices.Equal(got, row) {
		t.Fatalf("P19.2: Items: %v; want %v", got, row)
	}
	wantRange(t, x, bounds, all, row...)
}

// wantSpans holds Range against a row for each span of times from one to another.
func wantSpans(t *testing.T, x *tree.Tree, bounds []int, from int, to int, row ...api.Item) {
	t.Helper()
	for start := from; start <= to; start++ {
		for end := from; end <= to; end++ {
			wantRange(t, x, bounds, api.Span{Start: start, End: end}, row...)
		}
	}
}

// sorted gives a row of its own, by Time, then by Seq.
func sorted(xs ...api.Item) []api.Item {
	return slices.SortedFunc(slices.Values(xs), rules.Compare)
}

// goodBounds are lists of bounds that may be; badBounds are lists that may not.
var (
	goodBounds = [][]int{nil, {}, {0}, {-api.MaxValue}, {api.MaxValue}, {-api.MaxValue, api.MaxValue}, {-3, 3}, {1, 2, 3, 4, 5, 6, 7, 8}}
	badBounds  = [][]int{
		{0, 0}, {1, 0}, {-1, 0, 0}, {1, 3, 2}, {1, 2, 3, 4, 5, 6, 7, 7},
		{-api.MaxValue - 1}, {api.MaxValue + 1}, {math.MinInt}, {0, math.MaxInt},
		{1, 2, 3, 4, 5, 6, 7, 8, 9},
	}
)

func TestNew(t *testing.T) {
	for _, bounds := range goodBounds {
		x := made(t, bounds)
		wantEvict(t, x, math.MaxInt, 0)
		a, b := api.Item{Series: 3, Seq: 1, Value: 3}, api.Item{Series: 3, Seq: 2, Value: -3}
		wantInsert(t, x, api.OK, a, b)
		wantRow(t, x, bounds, a, b)
	}
	for _, bounds := range badBounds {
		if x, e := tree.New(bounds); x != nil || e != api.ErrTreeForm {
			t.Errorf("P19.1: New(%v): %v, error %d; want none, error %d", bounds, x, e, api.ErrTreeForm)
		}
	}
}

func TestByHand(t *testing.T) {
	bounds := []int{0, 10}
	x := made(t, bounds)
	a := api.Item{Series: 3, Time: 5, Seq: 1, Value: 7}
	b := api.Item{Series: 3, Time: 2, Seq: 2, Value: 12}
	c := api.Item{Series: 3, Time: 9, Seq: 3, Value: -4}
	d := api.Item{Series: 3, Time: 5, Seq: 4, Value: 10}
	wantInsert(t, x, api.OK, d, c)
	wantInsert(t, x, api.OK, b)
	wantInsert(t, x, api.OK, a)
	wantRow(t, x, bounds, b, a, d, c)
	for _, w := range []struct {
		s    api.Span
		want api.Acc
	}{
		{api.Span{Start: 2, End: 10}, api.Acc{Count: 4, Sum: 25, Min: -4, Max: 12, First: b, Last: c, Hist: []int{1, 2, 1}}},
		{api.Span{Start: 2, End: 9}, api.Acc{Count: 3, Sum: 29, Min: 7, Max: 12, First: b, Last: d, Hist: []int{0, 2, 1}}},
		{api.Span{Start: 3, End: 10}, api.Acc{Count: 3, Sum: 13, Min: -4, Max: 10, First: a, Last: c, Hist: []int{1, 2, 0}}},
		{api.Span{Start: 5, End: 6}, api.Acc{Count: 2, Sum: 17, Min: 7, Max: 10, First: a, Last: d, Hist: []int{0, 2, 0}}},
		{api.Span{Start: -7, End: 5}, api.Acc{Count: 1, Sum: 12, Min: 12, Max: 12, First: b, Last: b, Hist: []int{0, 0, 1}}},
		{api.Span{Start: 6, End: 9}, api.Acc{Hist: []int{0, 0, 0}}},
		{api.Span{Start: 5, End: 5}, api.Acc{Hist: []int{0, 0, 0}}},
		{api.Span{Start: 9, End: 2}, api.Acc{Hist: []int{0, 0, 0}}},
		{api.Span{}, api.Acc{Hist: []int{0, 0, 0}}},
	} {
		if got := x.Range(w.s); !reflect.DeepEqual(got, w.want) {
			t.Errorf("P19.2: Range(%v): %v; want %v", w.s, got, w.want)
		}
	}
	wantEvict(t, x, 2, 0)
	wantEvict(t, x, 3, 1)
	wantRow(t, x, bounds, a, d, c)
	wantEvict(t, x, 5, 0)
	wantEvict(t, x, 6, 2)
	wantRow(t, x, bounds, c)
	wantEvict(t, x, 10, 1)
	wantRow(t, x, bounds)
	wantEvict(t, x, 10, 0)
}

// TestEachRow: each row of up to five calls, some of which are refused, held against a plain row.
func TestEachRow(t *testing.T) {
	bounds := []int{15}
	inserts := [][]api.Item{{at(1, 2)}, {at(1, 1), at(3, 1)}, {at(2, 2), at(1, 2), at(0, 3)}, {of(4, at(2, 1))}, {at(2, 2), at(2, 1)}}
	evicts := []int{1, 2, 4}
	choices := len(inserts) + len(evicts)
	for n := range 6 {
		calls := 1
		for range n {
			calls *= choices
		}
		for code := range calls {
			x := made(t, bounds)
			var row []api.Item
			for range n {
				if at := code % choices; at < len(inserts) {
					row = inserted(t, x, row, inserts[at]...)
				} else {
					row = evicted(t, x, row, evicts[at-len(inserts)])
				}
				code /= choices
			}
			wantRow(t, x, bounds, row...)
			wantSpans(t, x, bounds, 0, 4, row...)
		}
	}
}

// inserted puts xs, which may be items, into x and into a plain row, which it gives back; x must refuse them where they don't fit.
func inserted(t *testing.T, x *tree.Tree, row []api.Item, xs ...api.Item) []api.Item {
	t.Helper()
	behind := sorted(append(slices.Clone(row), xs...)...)
	want := api.OK
	for i := range max(0, len(behind)-1) {
		if behind[i].Series != behind[i+1].Series {
			wantInsert(t, x, api.ErrTreeForm, xs...)
			return row
		}
		if rules.Compare(behind[i], behind[i+1]) == 0 {
			want = api.ErrTreeTwice
		}
	}
	wantInsert(t, x, want, xs...)
	if want != api.OK {
		return row
	}
	return behind
}

// evicted lets go what is below a time of x and of a plain row, which it gives back.
func evicted(t *testing.T, x *tree.Tree, row []api.Item, below int) []api.Item {
	t.Helper()
	left := slices.DeleteFunc(slices.Clone(row), func(y api.Item) bool { return y.Time < below })
	wantEvict(t, x, below, len(row)-len(left))
	return left
}

// TestAgainstARow: many calls, held against a plain row.
func TestAgainstARow(t *testing.T) {
	s := numbers(11)
	for range 250 {
		bounds := goodBounds[s.next(len(goodBounds))]
		x := made(t, bounds)
		var row []api.Item
		for range 60 {
			if s.next(5) == 0 {
				row = evicted(t, x, row, s.next(16)-8)
			} else {
				var xs []api.Item
				for range s.next(4) {
					xs = append(xs, s.item())
				}
				row = inserted(t, x, row, xs...)
			}
			wantRow(t, x, bounds, row...)
			for range 3 {
				wantRange(t, x, bounds, s.span(), row...)
			}
		}
	}
}

// wrongs are items that may not be.
var wrongs = []api.Item{
	{},
	{Series: 3},
	{Series: 3, Seq: -1},
	{Series: 3, Seq: api.MaxSeq + 1},
	{Series: 3, Seq: math.MinInt},
	{Series: 3, Seq: 9, Time: -api.MaxTime - 1},
	{Series: 3, Seq: 9, Time: api.MaxTime + 1},
	{Series: 3, Seq: 9, Time: math.MaxInt},
	{Series: 3, Seq: 9, Value: -api.MaxValue - 1},
	{Series: 3, Seq: 9, Value: api.MaxValue + 1},
	{Series: 3, Seq: 9, Value: math.MinInt},
	{Series: -1, Seq: 9},
	{Series: api.MaxId + 1, Seq: 9},
	{Series: math.MaxInt, Seq: 9},
}

// TestWrong: what may not be is refused, wherever it stands, ahead of what is there twice (R6), and nothing of it is there (R5).
func TestWrong(t *testing.T) {
	a, b, c := at(1, 1), at(2, 1), at(1, 3)
	for _, wrong := range wrongs {
		x := made(t, nil)
		wantInsert(t, x, api.ErrTreeForm, wrong)
		wantInsert(t, x, api.ErrTreeForm, wrong, wrong)
		wantInsert(t, x, api.ErrTreeForm, a, b, wrong)
		wantInsert(t, x, api.ErrTreeForm, a, wrong, b)
		wantInsert(t, x, api.ErrTreeForm, a, a, wrong)
		wantInsert(t, x, api.ErrTreeForm, wrong, a, a)
		wantRow(t, x, nil)
		wantInsert(t, x, api.OK, of(7, a))
		wantEvict(t, x, 2, 1)
		wantInsert(t, x, api.OK, a, b)
		wantInsert(t, x, api.ErrTreeForm, wrong)
		wantInsert(t, x, api.ErrTreeForm, c, wrong)
		wantInsert(t, x, api.ErrTreeForm, a, wrong)
		wantInsert(t, x, api.ErrTreeForm, wrong, b)
		wantRow(t, x, nil, a, b)
		wantInsert(t, x, api.OK, c)
		wantRow(t, x, nil, a, c, b)
	}
}

// TestSeries: all that are there are of one series, whichever; where none is there any more, of any.
func TestSeries(t *testing.T) {
	a, b, c := at(1, 1), at(2, 1), at(3, 1)
	x := made(t, nil)
	wantInsert(t, x, api.ErrTreeForm, a, of(4, b))
	wantInsert(t, x, api.ErrTreeForm, of(4, a), b)
	wantInsert(t, x, api.ErrTreeForm, a, b, of(0, c))
	wantInsert(t, x, api.ErrTreeForm, a, of(4, b), a)
	wantInsert(t, x, api.ErrTreeForm, a, a, of(4, a))
	wantRow(t, x, nil)
	wantInsert(t, x, api.OK)
	wantInsert(t, x, api.OK, of(4, a), of(4, c))
	wantInsert(t, x, api.ErrTreeForm, b)
	wantInsert(t, x, api.ErrTreeForm, a)
	wantInsert(t, x, api.ErrTreeForm, of(4, b), b)
	wantInsert(t, x, api.ErrTreeForm, b, of(4, b))
	wantInsert(t, x, api.OK, of(4, b))
	wantEvict(t, x, 3, 2)
	wantInsert(t, x, api.ErrTreeForm, b)
	wantInsert(t, x, api.OK)
	wantRow(t, x, nil, of(4, c))
	wantEvict(t, x, 4, 1)
	wantInsert(t, x, api.ErrTreeForm, b, of(4, a))
	wantInsert(t, x, api.OK, b, a)
	wantInsert(t, x, api.ErrTreeForm, of(4, c))
	wantRow(t, x, nil, a, b)
	for _, series := range []int{0, 1, api.MaxId} {
		x := made(t, nil, of(series, b))
		wantInsert(t, x, api.ErrTreeForm, a)
		wantInsert(t, x, api.OK, of(series, a))
		wantRow(t, x, nil, of(series, a), of(series, b))
	}
}

// TestTwice: no two of one Time and Seq are there, whatever their values; none of those is put in among which one is there.
func TestTwice(t *testing.T) {
	a, b, c := at(1, 1), at(1, 2), at(2, 1)
	again := a
	again.Value = -5
	for _, row := range [][]api.Item{{a, a}, {a, again}, {again, a}, {a, b, a}, {b, a, c, again}, {c, b, a, b}, {a, a, a}} {
		x := made(t, nil)
		wantInsert(t, x, api.ErrTreeTwice, row...)
		wantRow(t, x, nil)
		wantInsert(t, x, api.OK, of(4, a))
	}
	x := made(t, nil, a)
	for _, row := range [][]api.Item{{a}, {again}, {b, a}, {again, b}, {c, b, a}, {a, a}, {b, b}} {
		wantInsert(t, x, api.ErrTreeTwice, row...)
		wantRow(t, x, nil, a)
	}
	wantInsert(t, x, api.OK, c, b)
	for _, y := range []api.Item{a, b, c, again} {
		wantInsert(t, x, api.ErrTreeTwice, y)
		wantInsert(t, x, api.ErrTreeTwice, at(5, 5), y)
	}
	wantRow(t, x, nil, a, b, c)
	wantEvict(t, x, 2, 2)
	wantInsert(t, x, api.ErrTreeTwice, c)
	wantInsert(t, x, api.OK, again)
	wantRow(t, x, nil, again, c)
}

// row gives so many items from a place on, each of a Time and a Seq of its own.
func row(from int, n int) []api.Item {
	var out []api.Item
	for i := range n {
		out = append(out, at(from+i, 1+(from+i)%5))
	}
	return out
}

// TestTooMany: at most MaxItems are there; too many tells ahead of twice (R6).
func TestTooMany(t *testing.T) {
	most := row(0, api.MaxItems)
	one := at(api.MaxItems, 1)
	x := made(t, nil)
	wantInsert(t, x, api.ErrTreeForm, append(slices.Clone(most), one)...)
	wantInsert(t, x, api.ErrTreeForm, append(slices.Clone(most), most[7])...)
	wantInsert(t, x, api.ErrTreeForm, slices.Repeat([]api.Item{one}, 3*api.MaxItems)...)
	wantRow(t, x, nil)
	wantInsert(t, x, api.ErrTreeTwice, slices.Repeat([]api.Item{one}, api.MaxItems)...)
	wantInsert(t, x, api.OK, most...)
	wantInsert(t, x, api.ErrTreeForm, one)
	wantInsert(t, x, api.ErrTreeForm, most[0])
	wantInsert(t, x, api.ErrTreeForm, most...)
	wantInsert(t, x, api.OK)
	wantRow(t, x, nil, most...)
	wantEvict(t, x, 2, 2)
	wantInsert(t, x, api.ErrTreeForm, one, most[0], most[1])
	wantInsert(t, x, api.ErrTreeForm, one, one, one)
	wantInsert(t, x, api.ErrTreeTwice, one, one)
	wantInsert(t, x, api.OK, one)
	wantInsert(t, x, api.ErrTreeTwice, one)
	wantInsert(t, x, api.OK, most[1])
	wantInsert(t, x, api.ErrTreeForm, most[0])
	wantRow(t, x, nil, append(slices.Clone(most[1:]), one)...)
	wantEvict(t, x, math.MaxInt, api.MaxItems)
	wantInsert(t, x, api.OK, most...)
	wantRow(t, x, nil, most...)
}

// TestLimits: items at the limits of their numbers, and times beyond them.
func TestLimits(t *testing.T) {
	low := api.Item{Series: api.MaxId, Time: -api.MaxTime, Seq: 1, Value: -api.MaxValue}
	high := api.Item{Series: api.MaxId, Time: api.MaxTime, Seq: api.MaxSeq, Value: api.MaxValue}
	x := made(t, []int{0}, high, low)
	wantRow(t, x, []int{0}, low, high)
	for _, start := range []int{math.MinInt, -api.MaxTime - 1, -api.MaxTime, 1 - api.MaxTime, api.MaxTime, api.MaxTime + 1, math.MaxInt} {
		for _, end := range []int{math.MinInt, -api.MaxTime - 1, -api.MaxTime, 1 - api.MaxTime, api.MaxTime, api.MaxTime + 1, math.MaxInt} {
			wantRange(t, x, []int{0}, api.Span{Start: start, End: end}, low, high)
		}
	}
	wantEvict(t, x, math.MinInt, 0)
	wantEvict(t, x, -api.MaxTime, 0)
	wantEvict(t, x, 1-api.MaxTime, 1)
	wantEvict(t, x, api.MaxTime, 0)
	wantRow(t, x, []int{0}, high)
	wantEvict(t, x, api.MaxTime+1, 1)
	wantRow(t, x, []int{0})
}

// TestSums: as many items as there may be, each of the least or the greatest value.
func TestSums(t *testing.T) {
	x := made(t, []int{-1, 1})
	xs := row(0, api.MaxItems)
	for i := range xs {
		xs[i].Value = api.MaxValue
	}
	wantInsert(t, x, api.OK, xs...)
	got := x.Range(all)
	want := api.Acc{Count: api.MaxItems, Sum: api.MaxItems * api.MaxValue, Min: api.MaxValue, Max: api.MaxValue, First: xs[0], Last: xs[len(xs)-1], Hist: []int{0, 0, api.MaxItems}}
	if !reflect.DeepEqual(got, want) {
		t.Errorf("P19.2: Range: %v; want %v", got, want)
	}
	half := api.MaxItems / 2
	wantEvict(t, x, half, half)
	for i := range half {
		xs[i].Value = -api.MaxValue
	}
	wantInsert(t, x, api.OK, xs[:half]...)
	want = api.Acc{Count: api.MaxItems, Min: -api.MaxValue, Max: api.MaxValue, First: xs[0], Last: xs[len(xs)-1], Hist: []int{half, 0, half}}
	if got := x.Range(all); !reflect.DeepEqual(got, want) {
		t.Errorf("P19.2: Range: %v; want %v", got, want)
	}
}

// TestOfOneTime: items of one time stand by their Seqs, and are in a span and gone together.
func TestOfOneTime(t *testing.T) {
	x := made(t, nil)
	var row []api.Item
	for i := range 200 {
		row = inserted(t, x, row, at(5, 1+i*37%200))
		wantRow(t, x, nil, row...)
		wantSpans(t, x, nil, 4, 7, row...)
	}
	wantEvict(t, x, 5, 0)
	wantEvict(t, x, 6, 200)
	wantRow(t, x, nil)
}

// TestAsks: what is asked for takes nothing away, and may be asked again (R5).
func TestAsks(t *testing.T) {
	bounds := []int{15, 25}
	a, b, c := at(1, 1), at(2, 2), at(3, 3)
	x := made(t, bounds, b, c, a)
	for range 4 {
		wantRow(t, x, bounds, a, b, c)
		wantSpans(t, x, bounds, 0, 5, a, b, c)
		wantEvict(t, x, 1, 0)
	}
}

// TestMany: as many items as there may be, moved on for a long time: no call walks through all of them.
func TestMany(t *testing.T) {
	bounds := []int{-10, 0, 10}
	at := func(i int) api.Item {
		return api.Item{Series: 3, Time: i, Seq: 1 + i%7, Value: i%41 - 20}
	}
	x := made(t, bounds)
	for i := range api.MaxItems {
		wantInsert(t, x, api.OK, at(i*4099%api.MaxItems))
	}
	for i := range 40000 {
		wantEvict(t, x, i+1, 1)
		wantInsert(t, x, api.OK, at(i+api.MaxItems))
		half := i + api.MaxItems/2
		got := x.Range(api.Span{Start: half, End: math.MaxInt})
		if got.Count != api.MaxItems/2+1 || got.First != at(half) || got.Last != at(i+api.MaxItems) {
			t.Fatalf("P19.2: Range: %v, behind %d that are gone", got, i+1)
		}
	}
	var row []api.Item
	for i := range api.MaxItems {
		row = append(row, at(40000+i))
	}
	wantRow(t, x, bounds, row...)
	for _, s := range []api.Span{{Start: 40001, End: 48191}, {Start: 43000, End: 43001}, {Start: 41234, End: 45678}} {
		wantRange(t, x, bounds, s, row...)
	}
}

// TestHandedIn: what is handed in is not changed, its spare room neither, and not kept (R4).
func TestHandedIn(t *testing.T) {
	bounds := []int{15, 25, 77, 78}
	a, b, c, d := at(1, 1), at(2, 2), at(3, 3), at(4, 4)
	x := made(t, bounds[:2])
	xs := []api.Item{c, a, b, d, d}
	was := slices.Clone(xs)
	wantInsert(t, x, api.ErrTreeTwice, xs...)
	wantInsert(t, x, api.OK, xs[:3]...)
	wantInsert(t, x, api.ErrTreeForm, append(slices.Clone(xs[3:4]), api.Item{})...)
	wantInsert(t, x, api.OK, xs[:0]...)
	x.Range(all)
	if !slices.Equal(bounds, []int{15, 25, 77, 78}) {
		t.Errorf("R4: the bounds changed to %v", bounds)
	}
	if !slices.Equal(xs, was) {
		t.Errorf("R4: the items changed to %v", xs)
	}
	clear(bounds)
	clear(xs)
	wantRow(t, x, []int{15, 25}, a, b, c)
	wantInsert(t, x, api.OK, d)
	wantSpans(t, x, []int{15, 25}, 0, 5, a, b, c, d)
}

// TestAnswered: what is answered shares no memory with the tree, nor with another answer (R4).
func TestAnswered(t *testing.T) {
	bounds := []int{15, 25}
	xs := row(0, 40)
	for _, n := range []int{0, 1, 2, 3, 40} {
		x := made(t, bounds, xs[:n]...)
		for _, s := range []api.Span{all, {Start: 0, End: 1}, {Start: 1, End: 2}, {Start: 5, End: 17}, {Start: 3, End: 2}} {
			first, second := x.Range(s), x.Range(s)
			spoil(first.Hist)
			if want := known(t, bounds, s, xs[:n]...); !reflect.DeepEqual(second, want) {
				t.Fatalf("R4: an answer changed to %v; want %v", second, want)
			}
			spoil(second.Hist)
			wantRange(t, x, bounds, s, xs[:n]...)
		}
		first, second := x.Items(), x.Items()
		first = first[:cap(first)]
		clear(first)
		if !slices.Equal(second, xs[:n]) {
			t.Fatalf("R4: an answer changed to %v; want %v", second, xs[:n])
		}
		clear(second)
		wantRow(t, x, bounds, xs[:n]...)
		wantInsert(t, x, api.OK, at(99, 9))
		wantEvict(t, x, 99, n)
		wantRow(t, x, bounds, at(99, 9))
	}
}

// spoil changes each number of hist, and of its spare room.
func spoil(hist []int) {
	hist = hist[:cap(hist)]
	for i := range hist {
		hist[i] += 1000
	}
}

// TestNil: no tree answers ErrNil, ahead of all else, and zero values (R3).
func TestNil(t *testing.T) {
	var x *tree.Tree
	wantInsert(t, x, api.ErrNil)
	wantInsert(t, x, api.ErrNil, at(1, 1), at(1, 1))
	wantInsert(t, x, api.ErrNil, wrongs...)
	for _, s := range []api.Span{{}, all} {
		if got := x.Range(s); !reflect.DeepEqual(got, api.Acc{}) {
			t.Errorf("R3: Range: %v", got)
		}
	}
	wantEvict(t, x, math.MaxInt, 0)
	if got := x.Items(); len(got) != 0 {
		t.Errorf("R3: Items: %v", got)
	}
}

// TestNotMade: one that New did not make is as one with no bounds, and does not panic (R1).
func TestNotMade(t *testing.T) {
	var x tree.Tree
	wantRow(t, &x, nil)
	wantEvict(t, &x, math.MaxInt, 0)
	wantInsert(t, &x, api.ErrTreeForm, wrongs...)
	wantInsert(t, &x, api.OK, at(2, 1), at(1, 1))
	wantInsert(t, &x, api.ErrTreeTwice, at(1, 1))
	wantRow(t, &x, nil, at(1, 1), at(2, 1))
	wantEvict(t, &x, 2, 1)
	wantRow(t, &x, nil, at(2, 1))
}

// TestApart: trees keep nothing together (R5).
func TestApart(t *testing.T) {
	x, y := made(t, nil), made(t, []int{15})
	a, b := at(1, 1), at(2, 2)
	wantInsert(t, x, api.OK, a, b)
	wantRow(t, y, []int{15})
	wantInsert(t, y, api.OK, of(4, b), of(4, a))
	wantEvict(t, x, 2, 1)
	wantRow(t, x, nil, b)
	wantRow(t, y, []int{15}, of(4, a), of(4, b))
	wantRow(t, made(t, nil), nil)
}

// TestTogether: trees of several goroutines, made by a plain function of the same bounds, at one time (R5).
func TestTogether(t *testing.T) {
	bounds := []int{15, 25}
	xs := row(0, 50)
	var group sync.WaitGroup
	for range 8 {
		group.Go(func() {
			x, e := tree.New(bounds)
			if e != api.OK {
				t.Errorf("P19.1: New: error %d", e)
				return
			}
			for range 20 {
				if e := x.Insert(xs...); e != api.OK {
					t.Errorf("P19.1: Insert: error %d", e)
				}
				if got := x.Range(api.Span{Start: 10, End: 30}).Count; got != 20 {
					t.Errorf("P19.2: Range of %d; want 20", got)
				}
				if got := x.Evict(20) + x.Evict(50); got != 50 {
					t.Errorf("P19.2: Evict: %d; want 50", got)
				}
			}
		})
	}
	group.Wait()
}

// TestFace: a tree has the chapter's methods alone, and nothing else of it is to be seen.
func TestFace(t *testing.T) {
	face := reflect.TypeFor[*tree.Tree]()
	var names []string
	for i := range face.NumMethod() {
		names = append(names, face.Method(i).Name)
	}
	if !slices.Equal(names, []string{"Evict", "Insert", "Items", "Range"}) {
		t.Errorf("methods: %v", names)
	}
	for i := range face.Elem().NumField() {
		if f := face.Elem().Field(i); f.IsExported() {
			t.Errorf("field %s", f.Name)
		}
	}
}
