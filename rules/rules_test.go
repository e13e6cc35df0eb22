package rules_test

import (
	"math"
	"testing"

	"bourne/api"
	"bourne/rules"
)

func TestWithin(t *testing.T) {
	for _, c := range []struct {
		n, low, high int
		want         bool
	}{
		{0, 0, 0, true}, {1, 0, 2, true}, {0, 0, 2, true}, {2, 0, 2, true},
		{-1, 0, 2, false}, {3, 0, 2, false}, {1, 2, 0, false},
		{math.MinInt, math.MinInt, math.MaxInt, true}, {math.MaxInt, 0, math.MaxInt, true}, {math.MinInt, 0, math.MaxInt, false},
	} {
		if got := rules.Within(c.n, c.low, c.high); got != c.want {
			t.Errorf("Within(%d, %d, %d): %v", c.n, c.low, c.high, got)
		}
	}
}

func TestItem(t *testing.T) {
	for _, x := range []api.Item{{Seq: 1}, {Series: api.MaxId, Time: api.MaxTime, Seq: api.MaxSeq, Value: api.MaxValue}, {Time: -api.MaxTime, Seq: 1, Value: -api.MaxValue}} {
		if !rules.Item(x) {
			t.Errorf("Item refuses %v", x)
		}
	}
	for _, x := range []api.Item{
		{}, {Seq: -1}, {Seq: api.MaxSeq + 1},
		{Series: -1, Seq: 1}, {Series: api.MaxId + 1, Seq: 1},
		{Time: api.MaxTime + 1, Seq: 1}, {Time: -api.MaxTime - 1, Seq: 1},
		{Seq: 1, Value: api.MaxValue + 1}, {Seq: 1, Value: -api.MaxValue - 1},
	} {
		if rules.Item(x) {
			t.Errorf("Item takes %v", x)
		}
	}
}

func TestCompare(t *testing.T) {
	row := []api.Item{{Time: math.MinInt, Seq: 9}, {Time: -1, Seq: 5}, {Time: 0, Seq: 1}, {Time: 0, Seq: 2}, {Time: 3, Seq: 1}, {Time: math.MaxInt, Seq: 0}}
	for i, x := range row {
		for j, y := range row {
			got := rules.Compare(x, y)
			if (got < 0) != (i < j) || (got > 0) != (i > j) {
				t.Errorf("Compare(%v, %v): %d", x, y, got)
			}
		}
	}
	if rules.Compare(api.Item{Series: 1, Seq: 1, Value: 1}, api.Item{Series: 2, Seq: 1, Value: 2}) != 0 {
		t.Error("Compare: items of one Time and Seq are alike")
	}
}

func TestBounds(t *testing.T) {
	for _, bounds := range [][]int{nil, {}, {0}, {-api.MaxValue, api.MaxValue}, {1, 2, 3, 4, 5, 6, 7, 8}} {
		if !rules.Bounds(bounds) {
			t.Errorf("Bounds refuses %v", bounds)
		}
	}
	for _, bounds := range [][]int{{0, 0}, {1, 0}, {1, 3, 2}, {-api.MaxValue - 1}, {api.MaxValue + 1}, {0, math.MaxInt}, {1, 2, 3, 4, 5, 6, 7, 8, 9}} {
		if rules.Bounds(bounds) {
			t.Errorf("Bounds takes %v", bounds)
		}
	}
}

func TestBucket(t *testing.T) {
	for _, c := range []struct {
		bounds      []int
		value, want int
	}{
		{nil, 5, 0}, {[]int{0}, -1, 0}, {[]int{0}, 0, 0}, {[]int{0}, 1, 1},
		{[]int{-4, 2, 9}, -4, 0}, {[]int{-4, 2, 9}, -3, 1}, {[]int{-4, 2, 9}, 9, 2}, {[]int{-4, 2, 9}, 10, 3},
	} {
		if got := rules.Bucket(c.bounds, c.value); got != c.want {
			t.Errorf("Bucket(%v, %d): %d, want %d", c.bounds, c.value, got, c.want)
		}
	}
}

func TestStep(t *testing.T) {
	for _, c := range []struct {
		q    api.Query
		want int
	}{
		{api.Query{Size: 10}, 10}, {api.Query{Kind: api.KindSliding, Size: 10, Slide: 3}, 3}, {api.Query{Kind: api.KindSliding, Size: 10, Slide: 10}, 10},
	} {
		if got := rules.Step(c.q); got != c.want {
			t.Errorf("Step(%v): %d, want %d", c.q, got, c.want)
		}
	}
}

func TestCompareResults(t *testing.T) {
	result := func(end, query, series, start int) api.Result {
		return api.Result{Query: query, Series: series, Span: api.Span{Start: start, End: end}}
	}
	row := []api.Result{
		result(-5, 7, 9, -6), result(0, 0, 9, -1), result(0, 1, 3, -1), result(0, 1, 4, -9), result(0, 1, 4, -8), result(0, 2, 0, -20), result(math.MaxInt, 0, 0, math.MinInt),
	}
	for i, a := range row {
		for j, b := range row {
			got := rules.CompareResults(a, b)
			if (got < 0) != (i < j) || (got > 0) != (i > j) {
				t.Errorf("CompareResults(%v, %v): %d", a, b, got)
			}
		}
	}
	a, b := result(1, 2, 3, 0), result(1, 2, 3, 0)
	a.Out.Value = 5
	if rules.CompareResults(a, b) != 0 {
		t.Error("CompareResults: what is told of a window has no say")
	}
}
