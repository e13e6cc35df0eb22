package ask_test

import (
	"testing"

	"bourne/api"
	"bourne/ask"
)

func TestFirst(t *testing.T) {
	for _, w := range []struct {
		q    api.Query
		time int
		want api.Span
	}{
		{api.Query{Size: 10}, 9, api.Span{Start: 0, End: 10}},
		{api.Query{Size: 10}, 10, api.Span{Start: 10, End: 20}},
		{api.Query{Size: 10}, -1, api.Span{Start: -10, End: 0}},
		{api.Query{Kind: api.KindSliding, Size: 6, Slide: 3}, 5, api.Span{Start: 0, End: 6}},
		{api.Query{Kind: api.KindSliding, Size: 6, Slide: 3}, -1, api.Span{Start: -6, End: 0}},
		{api.Query{Kind: api.KindSession, Size: 4}, -3, api.Span{Start: -3, End: 1}},
		{api.Query{Kind: api.KindSession, Size: api.MaxSpan}, api.MaxTime, api.Span{Start: api.MaxTime, End: api.MaxTime + api.MaxSpan}},
	} {
		a := ask.Ask{Query: w.q, Place: 2, Series: 3}
		if got := a.First(w.time); got != w.want {
			t.Errorf("First of %v, %d: %v; want %v", w.q, w.time, got, w.want)
		}
	}
}

func TestResult(t *testing.T) {
	a := ask.Ask{Query: api.Query{Agg: api.AggSum, Size: 10}, Place: 2, Series: 3}
	x := api.Item{Series: 3, Time: 5, Seq: 1, Value: 7}
	s := api.Span{Start: 0, End: 10}
	got := a.Result(s, api.Acc{Count: 1, Sum: 7, Min: 7, Max: 7, First: x, Last: x, Hist: []int{1}})
	if got.Query != 2 || got.Series != 3 || got.Span != s || got.Out.Value != 7 || got.Out.Over || got.Out.Hist != nil {
		t.Errorf("Result: %v", got)
	}
}
