package low_test

import (
	"math"
	"reflect"
	"slices"
	"sync"
	"testing"

	"bourne/acc"
	"bourne/api"
	"bourne/low"
)

// aggs are all that there are.
var aggs = []int{api.AggCount, api.AggSum, api.AggMin, api.AggMax, api.AggFirst, api.AggLast, api.AggHist, api.AggRank}

// at gives an item of series 3.
func at(time int, seq int, value int) api.Item {
	return api.Item{Series: 3, Time: time, Seq: seq, Value: value}
}

// known gives layer 1's Join of what is known of items of these values, in the row of their times.
func known(t *testing.T, bounds []int, values ...int) api.Acc {
	t.Helper()
	var as []api.Acc
	for i, v := range values {
		a, e := acc.One(at(i, i+1, v), bounds)
		if e != api.OK {
			t.Fatalf("P1.1: One of value %d, bounds %v: error %d", v, bounds, e)
		}
		as = append(as, a)
	}
	out, e := acc.Join(bounds, as...)
	if e != api.OK {
		t.Fatalf("P1.2: Join of values %v: error %d", values, e)
	}
	return out
}

// like tells whether both outs are one; an empty list and nil are one.
func like(x api.Out, y api.Out) bool {
	return x.Value == y.Value && x.Over == y.Over && slices.Equal(x.Hist, y.Hist)
}

// wantOut holds what Value tells against want.
func wantOut(t *testing.T, q api.Query, a api.Acc, want api.Out) {
	t.Helper()
	got, e := low.Value(q, a)
	if e != api.OK || !like(got, want) {
		t.Errorf("P2.1: Value(%v, %v): %v, error %d; want %v", q, a, got, e, want)
	}
}

// wantRefusal holds what Value tells against ErrLowForm, beside which all is zero (R2).
func wantRefusal(t *testing.T, q api.Query, a api.Acc) {
	t.Helper()
	got, e := low.Value(q, a)
	if e != api.ErrLowForm || !like(got, api.Out{}) {
		t.Errorf("P2.1: Value(%v, %v): %v, error %d; want nothing, error %d", q, a, got, e, api.ErrLowForm)
	}
}

// four gives bounds and, by hand, what is known of the values 2, 9, -7, 1 with them: no two Aggs tell the same number.
func four() ([]int, api.Acc) {
	return []int{0, 5}, api.Acc{Count: 4, Sum: 5, Min: -7, Max: 9, First: at(1, 1, 2), Last: at(6, 3, 1), Hist: []int{1, 2, 1}}
}

func TestEachAgg(t *testing.T) {
	bounds, a := four()
	for _, c := range []struct {
		agg  int
		want api.Out
	}{
		{api.AggCount, api.Out{Value: 4}},
		{api.AggSum, api.Out{Value: 5}},
		{api.AggMin, api.Out{Value: -7}},
		{api.AggMax, api.Out{Value: 9}},
		{api.AggFirst, api.Out{Value: 2}},
		{api.AggLast, api.Out{Value: 1}},
		{api.AggHist, api.Out{Hist: []int{1, 2, 1}}},
		{api.AggRank, api.Out{Value: 0}},
	} {
		wantOut(t, api.Query{Agg: c.agg, Bounds: bounds}, a, c.want)
	}
}

// TestRestHasNoSay: the query's other fields, and the Rank of other Aggs, change nothing.
func TestRestHasNoSay(t *testing.T) {
	bounds, a := four()
	for _, agg := range aggs {
		want, _ := low.Value(api.Query{Agg: agg, Bounds: bounds}, a)
		wantOut(t, api.Query{Kind: 99, Agg: agg, Size: -1, Slide: math.MinInt, Bounds: bounds}, a, want)
		wantOut(t, api.Query{Kind: api.KindSession, Agg: agg, Size: math.MaxInt, Bounds: bounds}, a, want)
		if agg == api.AggRank {
			continue
		}
		for _, rank := range []int{1, 999, api.MaxRank} {
			wantOut(t, api.Query{Agg: agg, Bounds: bounds, Rank: rank}, a, want)
		}
	}
}

// TestNoBounds: all but AggRank are told without Bounds, be they nil or empty.
func TestNoBounds(t *testing.T) {
	a := known(t, nil, 6, -2, 3)
	for _, bounds := range [][]int{nil, {}} {
		for agg, want := range map[int]api.Out{
			api.AggCount: {Value: 3},
			api.AggSum:   {Value: 7},
			api.AggMin:   {Value: -2},
			api.AggMax:   {Value: 6},
			api.AggFirst: {Value: 6},
			api.AggLast:  {Value: 3},
			api.AggHist:  {Hist: []int{3}},
		} {
			wantOut(t, api.Query{Agg: agg, Bounds: bounds}, a, want)
		}
		for _, rank := range []int{0, 500, api.MaxRank} {
			wantRefusal(t, api.Query{Agg: api.AggRank, Bounds: bounds, Rank: rank}, a)
		}
	}
}

// TestOneItem: of one item each Agg but AggCount and AggHist tells its value, as far as a bucket tells it.
func TestOneItem(t *testing.T) {
	bounds := []int{-5, 5}
	for _, c := range []struct {
		value, rank int
		hist        []int
	}{
		{-api.MaxValue, -5, []int{1, 0, 0}},
		{-5, -5, []int{1, 0, 0}},
		{-4, 5, []int{0, 1, 0}},
		{0, 5, []int{0, 1, 0}},
		{5, 5, []int{0, 1, 0}},
		{6, 6, []int{0, 0, 1}},
		{api.MaxValue, api.MaxValue, []int{0, 0, 1}},
	} {
		a := known(t, bounds, c.value)
		for _, agg := range []int{api.AggSum, api.AggMin, api.AggMax, api.AggFirst, api.AggLast} {
			wantOut(t, api.Query{Agg: agg, Bounds: bounds}, a, api.Out{Value: c.value})
		}
		wantOut(t, api.Query{Agg: api.AggCount, Bounds: bounds}, a, api.Out{Value: 1})
		wantOut(t, api.Query{Agg: api.AggHist, Bounds: bounds}, a, api.Out{Hist: c.hist})
		for _, rank := range []int{0, 1, 500, 999, api.MaxRank} {
			wantOut(t, api.Query{Agg: api.AggRank, Bounds: bounds, Rank: rank}, a, api.Out{Value: c.rank})
		}
	}
}

// TestSumLimits: a Sum of MaxSum either way is told, the next one is Over, and so is the greatest there may be.
func TestSumLimits(t *testing.T) {
	for _, c := range []struct {
		sum  int
		want api.Out
	}{
		{0, api.Out{}},
		{api.MaxSum - 1, api.Out{Value: api.MaxSum - 1}},
		{api.MaxSum, api.Out{Value: api.MaxSum}},
		{api.MaxSum + 1, api.Out{Over: true}},
		{api.MaxItems * api.MaxValue, api.Out{Over: true}},
		{1 - api.MaxSum, api.Out{Value: 1 - api.MaxSum}},
		{-api.MaxSum, api.Out{Value: -api.MaxSum}},
		{-api.MaxSum - 1, api.Out{Over: true}},
		{-api.MaxItems * api.MaxValue, api.Out{Over: true}},
	} {
		a := api.Acc{Count: api.MaxItems, Sum: c.sum, Min: -api.MaxValue, Max: api.MaxValue, First: at(0, 1, 0), Last: at(0, 1, 0), Hist: []int{api.MaxItems}}
		wantOut(t, api.Query{Agg: api.AggSum}, a, c.want)
		wantOut(t, api.Query{Agg: api.AggCount}, a, api.Out{Value: api.MaxItems})
		wantOut(t, api.Query{Agg: api.AggMin}, a, api.Out{Value: -api.MaxValue})
		wantOut(t, api.Query{Agg: api.AggMax}, a, api.Out{Value: api.MaxValue})
	}
}

// TestRankBuckets: the ranks just at a bucket's last item and just behind it, in the first, a middle and the last bucket.
func TestRankBuckets(t *testing.T) {
	bounds := []int{10, 20, 30}
	for i, c := range []struct {
		values []int
		rank   int
		want   int
	}{
		{[]int{1, 2, 12, 45}, 0, 10},
		{[]int{1, 2, 12, 45}, 500, 10},
		{[]int{1, 2, 12, 45}, 501, 20},
		{[]int{1, 2, 12, 45}, 750, 20},
		{[]int{1, 2, 12, 45}, 751, 45},
		{[]int{1, 2, 12, 45}, api.MaxRank, 45},
		{[]int{45, 12, 2, 1}, 501, 20},
		{[]int{25, 12, 25}, 0, 20},
		{[]int{25, 12, 25}, 333, 20},
		{[]int{25, 12, 25}, 334, 30},
		{[]int{25, 12, 25}, api.MaxRank, 30},
		{[]int{7, 31, 32}, 667, 32},
		{[]int{7, 31, 32}, 666, 32},
		{[]int{7, 31, 32}, 333, 10},
		{[]int{31, 99}, 0, 99},
		{[]int{31, 99}, api.MaxRank, 99},
		{[]int{-4, -9}, 0, 10},
		{[]int{-4, -9}, api.MaxRank, 10},
		{[]int{10, 20, 30, 31}, 250, 10},
		{[]int{10, 20, 30, 31}, 251, 20},
		{[]int{10, 20, 30, 31}, 750, 30},
		{[]int{10, 20, 30, 31}, 751, 31},
	} {
		a := known(t, bounds, c.values...)
		got, e := low.Value(api.Query{Agg: api.AggRank, Bounds: bounds, Rank: c.rank}, a)
		if e != api.OK || !like(got, api.Out{Value: c.want}) {
			t.Errorf("P2.1: row %d: rank %d of %v: %v, error %d; want %d", i, c.rank, c.values, got, e, c.want)
		}
	}
}

// TestRankOfMany: each Rank of MaxItems in as many buckets as there may be, against the chapter's words.
func TestRankOfMany(t *testing.T) {
	bounds := []int{1, 2, 3, 4, 5, 6, 7, 8}
	hist := []int{1, 0, 4095, 8, 0, 0, 3000, 1087, 1}
	a := api.Acc{Count: api.MaxItems, Sum: 5 * api.MaxItems, Min: 1, Max: 77, First: at(0, 1, 1), Last: at(9, 9, 1), Hist: hist}
	told := append(slices.Clone(bounds), 77)
	var row []int
	for i, n := range hist {
		row = append(row, slices.Repeat([]int{told[i]}, n)...)
	}
	for rank := range api.MaxRank + 1 {
		k := 1
		for 1000*k < rank*api.MaxItems {
			k++
		}
		wantOut(t, api.Query{Agg: api.AggRank, Bounds: bounds, Rank: rank}, a, api.Out{Value: row[k-1]})
	}
}

func TestWrongQueries(t *testing.T) {
	bounds, a := four()
	for _, agg := range []int{-1, api.AggRank + 1, 256, math.MinInt, math.MaxInt} {
		wantRefusal(t, api.Query{Agg: agg, Bounds: bounds}, a)
	}
	for _, agg := range aggs {
		for _, rank := range []int{-1, api.MaxRank + 1, math.MinInt, math.MaxInt} {
			wantRefusal(t, api.Query{Agg: agg, Bounds: bounds, Rank: rank}, a)
		}
		for _, other := range [][]int{nil, {}, {0}, {0, 5, 6}, {5, 0}, {0, 0}, {0, api.MaxValue + 1}, {-api.MaxValue - 1, 5}, {1, 2, 3, 4, 5, 6, 7, 8, 9}} {
			wantRefusal(t, api.Query{Agg: agg, Bounds: other}, a)
		}
	}
	tooMany := api.Acc{Count: 1, First: at(0, 1, 0), Last: at(0, 1, 0), Hist: []int{1, 0, 0, 0, 0, 0, 0, 0, 0, 0}}
	wantRefusal(t, api.Query{Agg: api.AggCount, Bounds: []int{1, 2, 3, 4, 5, 6, 7, 8, 9}}, tooMany)
}

// TestWrongAggregates: no Agg is told of an aggregate that may not be, not of one whose fault it does not tell, nor of an empty one.
func TestWrongAggregates(t *testing.T) {
	for i, turn := range []func(a *api.Acc){
		func(a *api.Acc) { *a = api.Acc{} },
		func(a *api.Acc) { *a = api.Acc{Hist: []int{0, 0, 0}} },
		func(a *api.Acc) { a.Count = 0 },
		func(a *api.Acc) { a.Count = 3 },
		func(a *api.Acc) { a.Count = -4 },
		func(a *api.Acc) { a.Count = math.MaxInt },
		func(a *api.Acc) { a.Sum = 37 },
		func(a *api.Acc) { a.Sum = -29 },
		func(a *api.Acc) { a.Min = 3 },
		func(a *api.Acc) { a.Min = -api.MaxValue - 1 },
		func(a *api.Acc) { a.Max = 1 },
		func(a *api.Acc) { a.Max = api.MaxValue + 1 },
		func(a *api.Acc) { a.First.Seq = 0 },
		func(a *api.Acc) { a.First.Value = 10 },
		func(a *api.Acc) { a.First.Time = 7 },
		func(a *api.Acc) { a.Last.Series = 4 },
		func(a *api.Acc) { a.Last = api.Item{} },
		func(a *api.Acc) { a.Hist = []int{1, 3, 1} },
		func(a *api.Acc) { a.Hist = []int{1, -1, 4} },
		func(a *api.Acc) { a.Hist = []int{2, 2} },
		func(a *api.Acc) { a.Hist = []int{1, 2, 1, 0} },
		func(a *api.Acc) { a.Hist = nil },
	} {
		bounds, a := four()
		turn(&a)
		for _, agg := range aggs {
			got, e := low.Value(api.Query{Agg: agg, Bounds: bounds}, a)
			if e != api.ErrLowForm || !like(got, api.Out{}) {
				t.Errorf("P2.1: row %d, Agg %d: %v, error %d; want nothing, error %d", i, agg, got, e, api.ErrLowForm)
			}
		}
	}
	wantRefusal(t, api.Query{Agg: api.AggCount}, api.Acc{Hist: []int{0}})
	wantRefusal(t, api.Query{Agg: api.AggHist}, api.Acc{})
}

// numbers is a row of numbers that look like chance.
type numbers uint64

func (n *numbers) below(most int) int {
	*n = *n*6364136223846793005 + 1442695040888963407
	return int(uint64(*n) >> 33 % uint64(most))
}

// TestAgainstValues holds each Agg against the values themselves, in a row by hand.
func TestAgainstValues(t *testing.T) {
	n := numbers(5)
	for range 1000 {
		bounds := [][]int{{0}, {-6, 0, 6}, {-9, -5, -4, 0, 1, 2, 7, 9}}[n.below(3)]
		values := make([]int, 1+n.below(20))
		sum := 0
		for i := range values {
			values[i] = n.below(25) - 12
			sum += values[i]
		}
		a, row, rank := known(t, bounds, values...), slices.Sorted(slices.Values(values)), n.below(api.MaxRank+1)
		k := 1
		for 1000*k < rank*len(row) {
			k++
		}
		ranked := row[len(row)-1]
		for _, b := range bounds {
			if row[k-1] <= b {
				ranked = b
				break
			}
		}
		for _, c := range []struct{ agg, want int }{
			{api.AggCount, len(row)}, {api.AggSum, sum}, {api.AggMin, row[0]}, {api.AggMax, row[len(row)-1]},
			{api.AggFirst, values[0]}, {api.AggLast, values[len(values)-1]}, {api.AggRank, ranked},
		} {
			wantOut(t, api.Query{Agg: c.agg, Bounds: bounds, Rank: rank}, a, api.Out{Value: c.want})
		}
		wantOut(t, api.Query{Agg: api.AggHist, Bounds: bounds, Rank: rank}, a, api.Out{Hist: a.Hist})
	}
}

// TestNothingShared: R4, for what is told and for what is refused.
func TestNothingShared(t *testing.T) {
	boundsRoom, histRoom := []int{0, 5, 91, 92}, []int{1, 2, 1, 93, 94}
	hadBounds, hadHist := slices.Clone(boundsRoom), slices.Clone(histRoom)
	_, a := four()
	a.Hist = histRoom[:3]
	had := a
	for _, agg := range append(slices.Clone(aggs), -1) {
		q := api.Query{Agg: agg, Bounds: boundsRoom[:2], Rank: 300}
		left, _ := low.Value(q, a)
		right, _ := low.Value(q, a)
		want := slices.Clone(right.Hist)
		spread(left.Hist)
		if !slices.Equal(right.Hist, want) {
			t.Errorf("R4: Agg %d: two answers share a list", agg)
		}
		if !slices.Equal(boundsRoom, hadBounds) || !slices.Equal(histRoom, hadHist) || !reflect.DeepEqual(a, had) {
			t.Fatalf("R4: Agg %d: what was handed in changed: bounds %v, Hist %v", agg, boundsRoom, histRoom)
		}
	}
}

// spread writes over a list and all its spare room.
func spread(list []int) {
	list = list[:cap(list)]
	for i := range list {
		list[i] = -77
	}
}

// TestTogether: a plain function, from several goroutines at one time (R5).
func TestTogether(t *testing.T) {
	bounds, a := four()
	answers := make([]api.Out, len(aggs))
	var all sync.WaitGroup
	for i, agg := range aggs {
		all.Go(func() {
			for range 200 {
				answers[i], _ = low.Value(api.Query{Agg: agg, Bounds: bounds, Rank: 600}, a)
			}
		})
	}
	all.Wait()
	for i, agg := range aggs {
		wantOut(t, api.Query{Agg: agg, Bounds: bounds, Rank: 600}, a, answers[i])
	}
}
