package acc_test

import (
	"math"
	"reflect"
	"slices"
	"sync"
	"testing"

	"bourne/acc"
	"bourne/api"
)

// at gives an item of series 3.
func at(time int, seq int, value int) api.Item {
	return api.Item{Series: 3, Time: time, Seq: seq, Value: value}
}

// one gives what is known of x; the test ends where the call refuses.
func one(t *testing.T, x api.Item, bounds ...int) api.Acc {
	t.Helper()
	a, e := acc.One(x, bounds)
	if e != api.OK {
		t.Fatalf("P1.1: One(%v, %v): error %d", x, bounds, e)
	}
	return a
}

// isZero tells whether a is the zero value; an empty list and nil are one.
func isZero(a api.Acc) bool {
	if len(a.Hist) > 0 {
		return false
	}
	a.Hist = nil
	return reflect.DeepEqual(a, api.Acc{})
}

// wantAcc holds a call's answer against want.
func wantAcc(t *testing.T, name string, got api.Acc, e api.Errno, want api.Acc) {
	t.Helper()
	if e != api.OK || !reflect.DeepEqual(got, want) {
		t.Errorf("%s: got %v, error %d; want %v", name, got, e, want)
	}
}

// wantError holds a call's refusal against want; beside it all is zero (R2).
func wantError(t *testing.T, name string, got api.Acc, e api.Errno, want api.Errno) {
	t.Helper()
	if e != want || !isZero(got) {
		t.Errorf("%s: got %v, error %d; want nothing, error %d", name, got, e, want)
	}
}

// whole gives an aggregate of series 3 that may be, with no bounds: count items of value, from first to last.
func whole(count int, value int, first api.Item, last api.Item) api.Acc {
	return api.Acc{Count: count, Sum: count * value, Min: value, Max: value, First: first, Last: last, Hist: []int{count}}
}

// goodBounds are lists of bounds that may be; badBounds are lists that may not.
var (
	goodBounds = [][]int{
		nil,
		{},
		{0},
		{-api.MaxValue},
		{api.MaxValue},
		{-api.MaxValue, api.MaxValue},
		{-1, 0},
		{1, 2, 3, 4, 5, 6, 7, 8},
	}
	badBounds = [][]int{
		{0, 0},
		{1, 0},
		{-1, 0, 0},
		{1, 3, 2},
		{2, 1, 3},
		{-api.MaxValue - 1},
		{api.MaxValue + 1},
		{-api.MaxValue - 1, 0},
		{0, api.MaxValue + 1},
		{math.MinInt},
		{math.MaxInt},
		{math.MinInt, math.MaxInt},
		{1, 2, 3, 4, 5, 6, 7, 8, 9},
		{1, 2, 3, 4, 5, 6, 7, 8, 8},
	}
)

func TestBounds(t *testing.T) {
	for _, bounds := range goodBounds {
		hist := make([]int, len(bounds)+1)
		if !acc.May(api.Acc{Hist: hist}, bounds) {
			t.Errorf("P1.1: May refuses bounds %v", bounds)
		}
		if _, e := acc.One(at(0, 1, 0), bounds); e != api.OK {
			t.Errorf("P1.1: One refuses bounds %v: %d", bounds, e)
		}
		got, e := acc.Join(bounds)
		wantAcc(t, "P1.2: Join without arguments", got, e, api.Acc{Hist: hist})
	}
	for _, bounds := range badBounds {
		hist := make([]int, len(bounds)+1)
		if acc.May(api.Acc{Hist: hist}, bounds) || acc.May(api.Acc{Hist: []int{0}}, bounds) || acc.May(api.Acc{}, bounds) {
			t.Errorf("P1.1: May takes bounds %v", bounds)
		}
		got, e := acc.One(at(0, 1, 0), bounds)
		wantError(t, "P1.1: One", got, e, api.ErrAccForm)
		got, e = acc.Join(bounds)
		wantError(t, "P1.2: Join", got, e, api.ErrAccForm)
		got, e = acc.Join(bounds, api.Acc{Hist: hist})
		wantError(t, "P1.2: Join", got, e, api.ErrAccForm)
	}
}

func TestOne(t *testing.T) {
	for _, x := range []api.Item{at(5, 2, 7), at(-5, 1, -7), {Seq: 1}} {
		want := api.Acc{Count: 1, Sum: x.Value, Min: x.Value, Max: x.Value, First: x, Last: x, Hist: []int{1}}
		got, e := acc.One(x, nil)
		wantAcc(t, "P1.1: One", got, e, want)
		if !acc.May(got, nil) {
			t.Errorf("P1.1: May refuses One(%v)", x)
		}
	}
}

func TestBuckets(t *testing.T) {
	many := []int{-30, -20, -10, 0, 10, 20, 30, 40}
	for _, c := range []struct {
		value  int
		bounds []int
		want   []int
	}{
		{9, nil, []int{1}},
		{0, []int{0}, []int{1, 0}},
		{-1, []int{0}, []int{1, 0}},
		{1, []int{0}, []int{0, 1}},
		{-api.MaxValue, []int{-api.MaxValue, api.MaxValue}, []int{1, 0, 0}},
		{1 - api.MaxValue, []int{-api.MaxValue, api.MaxValue}, []int{0, 1, 0}},
		{api.MaxValue, []int{-api.MaxValue, api.MaxValue}, []int{0, 1, 0}},
		{api.MaxValue, []int{-api.MaxValue, 0}, []int{0, 0, 1}},
		{-31, many, []int{1, 0, 0, 0, 0, 0, 0, 0, 0}},
		{-30, many, []int{1, 0, 0, 0, 0, 0, 0, 0, 0}},
		{-29, many, []int{0, 1, 0, 0, 0, 0, 0, 0, 0}},
		{10, many, []int{0, 0, 0, 0, 1, 0, 0, 0, 0}},
		{11, many, []int{0, 0, 0, 0, 0, 1, 0, 0, 0}},
		{40, many, []int{0, 0, 0, 0, 0, 0, 0, 1, 0}},
		{41, many, []int{0, 0, 0, 0, 0, 0, 0, 0, 1}},
	} {
		if a := one(t, at(0, 1, c.value), c.bounds...); !slices.Equal(a.Hist, c.want) {
			t.Errorf("P1.1: One of value %d, bounds %v: Hist %v, want %v", c.value, c.bounds, a.Hist, c.want)
		}
	}
}

var goodItems = []api.Item{
	{Series: 0, Seq: 1},
	{Series: api.MaxId, Seq: 1},
	{Time: -api.MaxTime, Seq: 1},
	{Time: api.MaxTime, Seq: 1},
	{Seq: api.MaxSeq},
	{Seq: 1, Value: -api.MaxValue},
	{Seq: 1, Value: api.MaxValue},
}

var badItems = []api.Item{
	{},
	{Series: -1, Seq: 1},
	{Series: api.MaxId + 1, Seq: 1},
	{Series: math.MinInt, Seq: 1},
	{Time: -api.MaxTime - 1, Seq: 1},
	{Time: api.MaxTime + 1, Seq: 1},
	{Time: math.MinInt, Seq: 1},
	{Seq: -1},
	{Seq: api.MaxSeq + 1},
	{Seq: math.MaxInt},
	{Seq: 1, Value: -api.MaxValue - 1},
	{Seq: 1, Value: api.MaxValue + 1},
	{Seq: 1, Value: math.MinInt},
}

func TestItems(t *testing.T) {
	for _, x := range goodItems {
		a := one(t, x)
		if !acc.May(a, nil) {
			t.Errorf("P1.1: May refuses what is known of %v", x)
		}
		got, e := acc.Join(nil, a)
		wantAcc(t, "P1.2: Join of one", got, e, a)
	}
	for _, x := range badItems {
		got, e := acc.One(x, nil)
		wantError(t, "P1.1: One", got, e, api.ErrAccForm)
		a := whole(1, x.Value, x, x)
		if acc.May(a, nil) {
			t.Errorf("P1.1: May takes what is known of %v", x)
		}
		got, e = acc.Join(nil, a)
		wantError(t, "P1.2: Join", got, e, api.ErrAccForm)
	}
}

// TestEndsMayBe holds First and Last against the limits one by one, all else as it may be.
func TestEndsMayBe(t *testing.T) {
	for _, bad := range []api.Item{at(-api.MaxTime-1, 1, 0), at(-1, 0, 0), at(-1, api.MaxSeq+1, 0)} {
		if acc.May(whole(2, 0, bad, at(0, 2, 0)), nil) {
			t.Errorf("P1.1: May takes First %v", bad)
		}
	}
	for _, bad := range []api.Item{at(api.MaxTime+1, 1, 0), at(1, 0, 0), at(1, api.MaxSeq+1, 0)} {
		if acc.May(whole(2, 0, at(0, 2, 0), bad), nil) {
			t.Errorf("P1.1: May takes Last %v", bad)
		}
	}
	for _, series := range []int{-1, api.MaxId + 1} {
		x, y := api.Item{Series: series, Seq: 1}, api.Item{Series: series, Seq: 2}
		if acc.May(whole(2, 0, x, y), nil) {
			t.Errorf("P1.1: May takes series %d", series)
		}
	}
	far := whole(2, 0, at(-api.MaxTime, 1, 0), at(api.MaxTime, api.MaxSeq, 0))
	if !acc.May(far, nil) {
		t.Error("P1.1: May refuses ends at the limits")
	}
}

func TestEmptyMayBe(t *testing.T) {
	empty := func() api.Acc { return api.Acc{Hist: []int{0, 0}} }
	if !acc.May(empty(), []int{5}) {
		t.Error("P1.1: May refuses the empty one")
	}
	for i, turn := range []func(a *api.Acc){
		func(a *api.Acc) { a.Sum = 1 },
		func(a *api.Acc) { a.Sum = -1 },
		func(a *api.Acc) { a.Min = -1 },
		func(a *api.Acc) { a.Max = 1 },
		func(a *api.Acc) { a.First.Series = 1 },
		func(a *api.Acc) { a.First.Time = 1 },
		func(a *api.Acc) { a.First.Seq = 1 },
		func(a *api.Acc) { a.First.Value = 1 },
		func(a *api.Acc) { a.Last.Series = 1 },
		func(a *api.Acc) { a.Last.Time = 1 },
		func(a *api.Acc) { a.Last.Seq = 1 },
		func(a *api.Acc) { a.Last.Value = 1 },
		func(a *api.Acc) { a.First, a.Last = at(0, 1, 0), at(0, 1, 0) },
		func(a *api.Acc) { a.Hist = []int{1, -1} },
		func(a *api.Acc) { a.Hist = []int{0, 1} },
		func(a *api.Acc) { a.Hist = []int{0} },
		func(a *api.Acc) { a.Hist = []int{0, 0, 0} },
		func(a *api.Acc) { a.Hist = nil },
	} {
		a := empty()
		turn(&a)
		if acc.May(a, []int{5}) {
			t.Errorf("P1.1: row %d: May takes %v", i, a)
		}
		got, e := acc.Join([]int{5}, a)
		wantError(t, "P1.2: Join", got, e, api.ErrAccForm)
	}
	if acc.May(api.Acc{}, nil) || acc.May(api.Acc{Hist: []int{}}, nil) {
		t.Error("P1.1: May takes one without a bucket")
	}
}

// three gives what is known of three items of values 1, 2, 3 with the bound 1.
func three() api.Acc {
	return api.Acc{Count: 3, Sum: 6, Min: 1, Max: 3, First: at(1, 5, 2), Last: at(2, 4, 2), Hist: []int{1, 2}}
}

func TestFullMayBe(t *testing.T) {
	for i, turn := range []func(a *api.Acc){
		func(a *api.Acc) {},
		func(a *api.Acc) { a.Sum = 3 },
		func(a *api.Acc) { a.Sum = 9 },
		func(a *api.Acc) { a.First.Value, a.Last.Value = 1, 3 },
		func(a *api.Acc) { a.First.Value, a.Last.Value = 3, 1 },
		func(a *api.Acc) { a.First = at(2, 3, 2) },
		func(a *api.Acc) { a.First = a.Last },
		func(a *api.Acc) { a.Hist = []int{0, 3} },
		func(a *api.Acc) { a.Hist = []int{3, 0} },
		func(a *api.Acc) { a.Min, a.Sum = -api.MaxValue, -3*api.MaxValue },
		func(a *api.Acc) { a.Max, a.Sum = api.MaxValue, 3*api.MaxValue },
		func(a *api.Acc) { a.Count, a.Sum, a.Hist = api.MaxItems, api.MaxItems*3, []int{0, api.MaxItems} },
		func(a *api.Acc) { a.Count, a.Sum, a.Hist = api.MaxItems, api.MaxItems, []int{api.MaxItems - 1, 1} },
	} {
		a := three()
		turn(&a)
		if !acc.May(a, []int{1}) {
			t.Errorf("P1.1: row %d: May refuses %v", i, a)
		}
		got, e := acc.Join([]int{1}, a)
		wantAcc(t, "P1.2: Join of one", got, e, a)
	}
}

func TestFullMayNotBe(t *testing.T) {
	for i, turn := range []func(a *api.Acc){
		func(a *api.Acc) { a.Count = 0 },
		func(a *api.Acc) { a.Count = -3 },
		func(a *api.Acc) { a.Count = 2 },
		func(a *api.Acc) { a.Count = 4 },
		func(a *api.Acc) { a.Count = math.MinInt },
		func(a *api.Acc) { a.Count = math.MaxInt },
		func(a *api.Acc) { a.Count, a.Sum, a.Hist = api.MaxItems+1, 2*(api.MaxItems+1), []int{1, api.MaxItems} },
		func(a *api.Acc) { a.Count, a.Hist = -1, []int{0, -1} },
		func(a *api.Acc) { a.Hist = []int{-1, 4} },
		func(a *api.Acc) { a.Hist = []int{4, -1} },
		func(a *api.Acc) { a.Hist = []int{api.MaxItems + 3, -api.MaxItems} },
		func(a *api.Acc) { a.Hist = []int{1, 1} },
		func(a *api.Acc) { a.Hist = []int{2, 2} },
		func(a *api.Acc) { a.Hist = []int{3} },
		func(a *api.Acc) { a.Hist = []int{1, 2, 0} },
		func(a *api.Acc) { a.Hist = []int{1, 2}[:1] },
		func(a *api.Acc) { a.Hist = nil },
		func(a *api.Acc) { a.Min = 4 },
		func(a *api.Acc) { a.Max = 0 },
		func(a *api.Acc) { a.Min, a.Max = 3, 1 },
		func(a *api.Acc) { a.Min, a.Sum = -api.MaxValue-1, 0 },
		func(a *api.Acc) { a.Max, a.Sum = api.MaxValue+1, 9 },
		func(a *api.Acc) { a.Min = math.MinInt },
		func(a *api.Acc) { a.Max = math.MaxInt },
		func(a *api.Acc) { a.Sum = 2 },
		func(a *api.Acc) { a.Sum = 10 },
		func(a *api.Acc) { a.Sum = math.MinInt },
		func(a *api.Acc) { a.Sum = math.MaxInt },
		func(a *api.Acc) { a.First.Value = 0 },
		func(a *api.Acc) { a.First.Value = 4 },
		func(a *api.Acc) { a.Last.Value = 0 },
		func(a *api.Acc) { a.Last.Value = 4 },
		func(a *api.Acc) { a.First.Series = 4 },
		func(a *api.Acc) { a.Last.Series = 4 },
		func(a *api.Acc) { a.First.Time = 3 },
		func(a *api.Acc) { a.First = at(2, 5, 2) },
		func(a *api.Acc) { a.First = api.Item{} },
		func(a *api.Acc) { a.Last = api.Item{} },
	} {
		a := three()
		turn(&a)
		if acc.May(a, []int{1}) {
			t.Errorf("P1.1: row %d: May takes %v", i, a)
		}
		for _, as := range [][]api.Acc{{a}, {three(), a}, {a, three()}} {
			got, e := acc.Join([]int{1}, as...)
			wantError(t, "P1.2: Join", got, e, api.ErrAccForm)
		}
	}
	if acc.May(three(), nil) || acc.May(three(), []int{1, 2}) || acc.May(three(), []int{1, 1}) {
		t.Error("P1.1: May takes other bounds")
	}
}

// TestOverflowMayNotBe: numbers whose sums or products wrap round to what would fit.
func TestOverflowMayNotBe(t *testing.T) {
	a := three()
	a.Hist = []int{math.MaxInt, math.MaxInt, 5}
	if acc.May(a, []int{1, 2}) {
		t.Error("P1.1: May takes buckets that wrap round to Count")
	}
	x, y := at(0, 1, 1<<62), at(1, 2, 1<<62)
	if acc.May(api.Acc{Count: 4, Min: 1 << 62, Max: 1 << 62, First: x, Last: y, Hist: []int{4}}, nil) {
		t.Error("P1.1: May takes a Min of which Count times wraps round")
	}
	full := whole(api.MaxItems, api.MaxValue, at(0, 1, api.MaxValue), at(1, 2, api.MaxValue))
	deep := whole(api.MaxItems, -api.MaxValue, at(0, 1, -api.MaxValue), at(1, 2, -api.MaxValue))
	if !acc.May(full, nil) || !acc.May(deep, nil) {
		t.Error("P1.1: May refuses the greatest sums")
	}
	full.Sum, deep.Sum = full.Sum+1, deep.Sum-1
	if acc.May(full, nil) || acc.May(deep, nil) {
		t.Error("P1.1: May takes sums above the greatest ones")
	}
}

func TestJoin(t *testing.T) {
	bounds := []int{0, 10}
	a := api.Acc{Count: 2, Sum: 7, Min: -3, Max: 10, First: at(4, 1, 10), Last: at(9, 2, -3), Hist: []int{1, 1, 0}}
	b := api.Acc{Count: 3, Sum: 30, Min: -1, Max: 20, First: at(2, 5, 11), Last: at(7, 4, 20), Hist: []int{1, 0, 2}}
	empty := api.Acc{Hist: []int{0, 0, 0}}
	both := api.Acc{Count: 5, Sum: 37, Min: -3, Max: 20, First: at(2, 5, 11), Last: at(9, 2, -3), Hist: []int{2, 1, 2}}
	for i, c := range []struct {
		as   []api.Acc
		want api.Acc
	}{
		{nil, empty},
		{[]api.Acc{}, empty},
		{[]api.Acc{empty}, empty},
		{[]api.Acc{empty, empty, empty}, empty},
		{[]api.Acc{a}, a},
		{[]api.Acc{a, empty}, a},
		{[]api.Acc{empty, a}, a},
		{[]api.Acc{b, empty}, b},
		{[]api.Acc{empty, empty, b}, b},
		{[]api.Acc{a, b}, both},
		{[]api.Acc{b, a}, both},
		{[]api.Acc{empty, a, empty, b, empty}, both},
	} {
		got, e := acc.Join(bounds, c.as...)
		if e != api.OK || !reflect.DeepEqual(got, c.want) {
			t.Errorf("P1.2: row %d: got %v, error %d; want %v", i, got, e, c.want)
		}
	}
}

// TestJoinAside: an empty one's zeros are no Min, Max, First or Last.
func TestJoinAside(t *testing.T) {
	empty := api.Acc{Hist: []int{0}}
	for _, x := range []api.Item{at(5, 1, 7), at(-5, 1, -7)} {
		a := one(t, x)
		for _, as := range [][]api.Acc{{empty, a}, {a, empty}, {empty, a, empty}} {
			got, e := acc.Join(nil, as...)
			wantAcc(t, "P1.2: Join with the empty one", got, e, a)
		}
	}
}

func TestJoinEnds(t *testing.T) {
	for i, c := range []struct {
		xs          []api.Item
		first, last int
	}{
		{[]api.Item{at(1, 9, 0), at(2, 1, 1)}, 0, 1},
		{[]api.Item{at(2, 1, 0), at(1, 9, 1)}, 1, 0},
		{[]api.Item{at(5, 2, 0), at(5, 1, 1)}, 1, 0},
		{[]api.Item{at(5, 1, 0), at(5, 2, 1)}, 0, 1},
		{[]api.Item{at(5, 1, 0), at(5, 1, 1)}, 0, 1},
		{[]api.Item{at(5, 1, 1), at(5, 1, 0)}, 0, 1},
		{[]api.Item{at(5, 1, 0), at(5, 1, 1), at(5, 1, 2)}, 0, 2},
		{[]api.Item{at(6, 1, 0), at(5, 1, 1), at(5, 1, 2), at(6, 1, 3)}, 1, 3},
		{[]api.Item{at(-5, 1, 0), at(-6, 1, 1), at(-4, 1, 2)}, 1, 2},
	} {
		var as []api.Acc
		for _, x := range c.xs {
			as = append(as, one(t, x))
		}
		got, e := acc.Join(nil, as...)
		if e != api.OK || got.First != c.xs[c.first] || got.Last != c.xs[c.last] {
			t.Errorf("P1.2: row %d: First %v, Last %v, error %d", i, got.First, got.Last, e)
		}
		if !acc.May(got, nil) {
			t.Errorf("P1.2: row %d: %v may not be", i, got)
		}
	}
}

func TestJoinUnlikeSeries(t *testing.T) {
	empty := api.Acc{Hist: []int{0}}
	none, low, high := one(t, api.Item{Seq: 1}), one(t, at(0, 1, 0)), one(t, api.Item{Series: 4, Seq: 1})
	for i, as := range [][]api.Acc{
		{low, high},
		{high, low},
		{none, low},
		{low, none},
		{low, empty, high},
		{low, low, high},
		{low, high, low},
		{empty, high, high, low},
	} {
		got, e := acc.Join(nil, as...)
		if e != api.ErrAccForm || !isZero(got) {
			t.Errorf("P1.2: row %d: %v, error %d", i, got, e)
		}
	}
}

func TestJoinTotal(t *testing.T) {
	x, y := at(0, 1, api.MaxValue), at(9, 9, api.MaxValue)
	most := whole(api.MaxItems, api.MaxValue, x, y)
	less := whole(api.MaxItems-1, api.MaxValue, x, y)
	single, empty := whole(1, api.MaxValue, x, x), api.Acc{Hist: []int{0}}
	for _, as := range [][]api.Acc{{most}, {most, empty}, {empty, most}, {less, single}, {single, empty, less}} {
		got, e := acc.Join(nil, as...)
		wantAcc(t, "P1.2: Join of MaxItems", got, e, most)
	}
	for _, as := range [][]api.Acc{{most, single}, {single, most}, {less, single, single}, {most, most}, {most, empty, single}} {
		got, e := acc.Join(nil, as...)
		wantError(t, "P1.2: Join above MaxItems", got, e, api.ErrAccTotal)
	}
	singles := slices.Repeat([]api.Acc{single}, api.MaxItems)
	got, e := acc.Join(nil, singles...)
	want := most
	want.Last = x
	wantAcc(t, "P1.2: Join of MaxItems single ones", got, e, want)
	got, e = acc.Join(nil, append(singles, single)...)
	wantError(t, "P1.2: Join of more single ones", got, e, api.ErrAccTotal)
}

// TestJoinFormAhead: where both errors apply, ErrAccForm is answered (R6), wherever the fault stands.
func TestJoinFormAhead(t *testing.T) {
	most := whole(api.MaxItems, 0, at(0, 1, 0), at(0, 1, 0))
	other := one(t, api.Item{Series: 4, Seq: 1})
	bad := api.Acc{Count: api.MaxItems + 1, First: at(0, 1, 0), Last: at(0, 1, 0), Hist: []int{api.MaxItems + 1}}
	for i, as := range [][]api.Acc{{most, most, api.Acc{}}, {api.Acc{}, most, most}, {most, most, other}, {other, most, most}, {most, other, most}, {most, bad}, {bad, most}} {
		got, e := acc.Join(nil, as...)
		if e != api.ErrAccForm || !isZero(got) {
			t.Errorf("R6: row %d: %v, error %d", i, got, e)
		}
	}
	got, e := acc.Join([]int{1, 1}, most, most)
	wantError(t, "R6: bounds", got, e, api.ErrAccForm)
}

// fold gives by hand what is known of xs, which come in the row of their places.
func fold(xs []api.Item, bounds []int) api.Acc {
	out := api.Acc{Hist: make([]int, len(bounds)+1)}
	if len(xs) == 0 {
		return out
	}
	row := slices.Clone(xs)
	slices.SortStableFunc(row, func(x, y api.Item) int {
		if x.Time != y.Time {
			return x.Time - y.Time
		}
		return x.Seq - y.Seq
	})
	out.First, out.Last, out.Min, out.Max = row[0], row[len(row)-1], row[0].Value, row[0].Value
	for _, x := range row {
		bucket := 0
		for bucket < len(bounds) && x.Value > bounds[bucket] {
			bucket++
		}
		out.Hist[bucket]++
		out.Count, out.Sum, out.Min, out.Max = out.Count+1, out.Sum+x.Value, min(out.Min, x.Value), max(out.Max, x.Value)
	}
	return out
}

// numbers is a row of numbers that look like chance.
type numbers uint64

func (n *numbers) below(most int) int {
	*n = *n*6364136223846793005 + 1442695040888963407
	return int(uint64(*n) >> 33 % uint64(most))
}

func TestJoinInParts(t *testing.T) {
	n := numbers(7)
	for range 1500 {
		bounds := goodBounds[n.below(len(goodBounds))]
		var xs []api.Item
		var parts []api.Acc
		for range n.below(6) {
			var part []api.Item
			for range n.below(4) {
				part = append(part, at(n.below(5)-2, n.below(4)+1, n.below(13)-3))
			}
			xs, parts = append(xs, part...), append(parts, fold(part, bounds))
		}
		want := fold(xs, bounds)
		got, e := acc.Join(bounds, parts...)
		wantAcc(t, "P1.2: Join of parts", got, e, want)
		if !acc.May(got, bounds) {
			t.Fatalf("P1.2: %v may not be", got)
		}
		cut := n.below(len(parts) + 1)
		left, _ := acc.Join(bounds, parts[:cut]...)
		right, _ := acc.Join(bounds, parts[cut:]...)
		got, e = acc.Join(bounds, left, right)
		wantAcc(t, "P1.2: Join of two Joins", got, e, want)
	}
}

// TestNothingShared: R4 of One and Join.
func TestNothingShared(t *testing.T) {
	room := []int{1, 99}
	bounds := room[:1]
	a, b := one(t, at(0, 1, 1), bounds...), one(t, at(0, 1, 1), bounds...)
	a.Hist[0] = 50
	if b.Hist[0] != 1 {
		t.Error("R4: two answers of One share a list")
	}
	for _, as := range [][]api.Acc{nil, {three()}, {three(), three()}, {three(), {Hist: []int{0, 0}}}, {{Hist: []int{0, 0}}, three()}} {
		var had []api.Acc
		for i := range as {
			as[i].Hist = append(make([]int, 0, 9), as[i].Hist...)
			c := as[i]
			c.Hist = slices.Clone(c.Hist)
			had = append(had, c)
		}
		left, _ := acc.Join(bounds, as...)
		right, _ := acc.Join(bounds, as...)
		want := right.Hist[0]
		spread(left.Hist)
		if right.Hist[0] != want {
			t.Errorf("R4: two answers of Join share a list")
		}
		if !reflect.DeepEqual(as, had) {
			t.Errorf("R4: Join changed %v to %v, or shares a list with it", had, as)
		}
		for _, a := range as {
			if !slices.Equal(a.Hist[2:9], make([]int, 7)) {
				t.Errorf("R4: Join wrote into spare room: %v", a.Hist[:9])
			}
		}
	}
	if !slices.Equal(room, []int{1, 99}) {
		t.Errorf("R4: bounds changed to %v", room)
	}
}

// spread writes over a list and all its spare room.
func spread(list []int) {
	list = list[:cap(list)]
	for i := range list {
		list[i] = -77
	}
}

// TestTogether: plain functions, from several goroutines at one time (R5).
func TestTogether(t *testing.T) {
	a, b := three(), three()
	want, _ := acc.Join([]int{1}, a, b)
	answers := make([]api.Acc, 8)
	var all sync.WaitGroup
	for i := range answers {
		all.Go(func() {
			for range 200 {
				answers[i], _ = acc.Join([]int{1}, a, b)
			}
		})
	}
	all.Wait()
	for _, got := range answers {
		wantAcc(t, "R5: Join", got, api.OK, want)
	}
}
