package slice_test

import (
	"math"
	"math/big"
	"reflect"
	"slices"
	"sync"
	"testing"

	"bourne/api"
	"bourne/slice"
	"bourne/window"
)

// tumbling and sliding give queries of that Kind that tell a count.
func tumbling(size int) api.Query {
	return api.Query{Kind: api.KindTumbling, Size: size}
}

func sliding(size int, slide int) api.Query {
	return api.Query{Kind: api.KindSliding, Size: size, Slide: slide}
}

// told gives q with an Agg, its Rank and its bounds.
func told(q api.Query, agg int, rank int, bounds ...int) api.Query {
	q.Agg, q.Rank, q.Bounds = agg, rank, bounds
	return q
}

// row gives spans of a length, one beside the other, from the first Start on.
func row(start int, length int, count int) []api.Span {
	var out []api.Span
	for i := range count {
		out = append(out, api.Span{Start: start + i*length, End: start + (i+1)*length})
	}
	return out
}

// wantUnit, wantAt and wantCut hold a call's answer against want.
func wantUnit(t *testing.T, q api.Query, want int) {
	t.Helper()
	if got, e := slice.Unit(q); e != api.OK || got != want {
		t.Errorf("P5.1: Unit(%v): %d, error %d; want %d", q, got, e, want)
	}
}

func wantAt(t *testing.T, q api.Query, time int, want api.Span) {
	t.Helper()
	if got, e := slice.At(q, time); e != api.OK || got != want {
		t.Errorf("P5.1: At(%v, %d): %v, error %d; want %v", q, time, got, e, want)
	}
}

func wantCut(t *testing.T, q api.Query, s api.Span, want []api.Span) {
	t.Helper()
	if got, e := slice.Cut(q, s); e != api.OK || !slices.Equal(got, want) {
		t.Errorf("P5.2: Cut(%v, %v): %v, error %d; want %v", q, s, got, e, want)
	}
}

// wantNoUnit, wantNoAt and wantNoCut hold a call's answer against ErrSliceForm, beside which all is zero (R2).
func wantNoUnit(t *testing.T, q api.Query) {
	t.Helper()
	if got, e := slice.Unit(q); e != api.ErrSliceForm || got != 0 {
		t.Errorf("P5.1: Unit(%v): %d, error %d; want 0, error %d", q, got, e, api.ErrSliceForm)
	}
}

func wantNoAt(t *testing.T, q api.Query, time int) {
	t.Helper()
	if got, e := slice.At(q, time); e != api.ErrSliceForm || got != (api.Span{}) {
		t.Errorf("P5.1: At(%v, %d): %v, error %d; want nothing, error %d", q, time, got, e, api.ErrSliceForm)
	}
}

func wantNoCut(t *testing.T, q api.Query, s api.Span) {
	t.Helper()
	if got, e := slice.Cut(q, s); e != api.ErrSliceForm || len(got) != 0 {
		t.Errorf("P5.2: Cut(%v, %v): %v, error %d; want nothing, error %d", q, s, got, e, api.ErrSliceForm)
	}
}

// shapes are queries, the edges of what may be among them, each with how long its parts are.
var shapes = []struct {
	q    api.Query
	unit int
}{
	{tumbling(1), 1}, {tumbling(5), 5}, {tumbling(12), 12}, {tumbling(257), 257}, {tumbling(api.MaxSpan - 1), api.MaxSpan - 1}, {tumbling(api.MaxSpan), api.MaxSpan},
	{sliding(1, 1), 1}, {sliding(5, 1), 1}, {sliding(5, 2), 1}, {sliding(5, 5), 5}, {sliding(6, 3), 3}, {sliding(6, 4), 2}, {sliding(12, 8), 4}, {sliding(15, 10), 5}, {sliding(35, 21), 7},
	// As many windows as may hold a time.
	{sliding(64, 1), 1}, {sliding(127, 2), 1}, {sliding(128, 2), 2}, {sliding(192, 3), 3}, {sliding(6400, 100), 100}, {sliding(api.MaxSpan, api.MaxSpan/64), api.MaxSpan / 64},
	// As many parts as there may be.
	{sliding(256, 5), 1}, {sliding(256, 255), 1}, {sliding(512, 18), 2}, {sliding(2560, 90), 10},
	{sliding(api.MaxSpan, api.MaxSpan/256*9), api.MaxSpan / 256}, {sliding(api.MaxSpan, api.MaxSpan/256*255), api.MaxSpan / 256},
	{sliding(api.MaxSpan, api.MaxSpan/2), api.MaxSpan / 2}, {sliding(api.MaxSpan, api.MaxSpan/4*3), api.MaxSpan / 4}, {sliding(api.MaxSpan, api.MaxSpan), api.MaxSpan},
	{sliding(api.MaxSpan-1, api.MaxSpan-1), api.MaxSpan - 1}, {sliding(1073741820, 1073741820/3*2), 1073741820 / 3},
}

// badQueries may not be, or are of KindSession.
var badQueries = []api.Query{
	{}, {Kind: -1, Size: 5}, {Kind: api.KindSession + 1, Size: 5}, {Kind: 256, Size: 5}, {Kind: math.MinInt, Size: 5}, {Kind: math.MaxInt, Size: 5, Slide: 5},

	{Kind: api.KindSession, Size: 1}, {Kind: api.KindSession, Size: 5}, {Kind: api.KindSession, Size: api.MaxSpan}, {Kind: api.KindSession}, {Kind: api.KindSession, Size: 5, Slide: 5},
	told(api.Query{Kind: api.KindSession, Size: 5}, api.AggHist, 0, 1), told(api.Query{Kind: api.KindSession, Size: 5}, api.AggRank, 500, 1),

	tumbling(0), tumbling(-5), tumbling(api.MaxSpan + 1), tumbling(math.MinInt), tumbling(math.MaxInt), {Kind: api.KindTumbling, Size: 5, Slide: 1}, {Kind: api.KindTumbling, Size: 5, Slide: 5},

	sliding(0, 0), sliding(0, 1), sliding(-5, -5), sliding(5, 0), sliding(5, -1), sliding(5, 6), sliding(5, 10), sliding(65, 1), sliding(129, 2), sliding(257, 9), sliding(257, 256),
	sliding(api.MaxSpan+1, api.MaxSpan+1), sliding(2*api.MaxSpan, api.MaxSpan), sliding(api.MaxSpan, api.MaxSpan/128), sliding(api.MaxSpan, api.MaxSpan-1), sliding(api.MaxSpan, api.MaxSpan+1),
	sliding(math.MinInt, 1), sliding(math.MinInt, math.MinInt), sliding(math.MaxInt, math.MaxInt), sliding(5, math.MinInt), sliding(5, math.MaxInt),

	told(tumbling(5), -1, 0), told(tumbling(5), api.AggRank+1, 0), told(sliding(6, 3), -1, 0), told(sliding(6, 3), api.AggRank+1, 0, 1),
	told(tumbling(5), api.AggSum, 0, 1), told(tumbling(5), api.AggSum, 1), told(sliding(6, 3), api.AggSum, 0, 1), told(sliding(6, 3), api.AggSum, 1),
	told(tumbling(5), api.AggHist, 0), told(tumbling(5), api.AggHist, 1, 1), told(sliding(6, 3), api.AggHist, 0, 2, 1), told(sliding(6, 3), api.AggHist, 0, api.MaxValue+1),
	told(tumbling(5), api.AggRank, 0), told(tumbling(5), api.AggRank, -1, 1), told(sliding(6, 3), api.AggRank, api.MaxRank+1, 1), told(sliding(6, 3), api.AggRank, 0, 1, 2, 3, 4, 5, 6, 7, 8, 9),
}

// farTimes are the ends of the times and what stands about their middle.
var farTimes = []int{
	-api.MaxTime, 1 - api.MaxTime, 2 - api.MaxTime, api.MaxSpan - api.MaxTime, -api.MaxSpan - 1, -api.MaxSpan, 1 - api.MaxSpan, -1000, -1,
	0, 1, 1000, api.MaxSpan - 1, api.MaxSpan, api.MaxSpan + 1, api.MaxTime - api.MaxSpan, api.MaxTime - 2, api.MaxTime - 1, api.MaxTime,
}

// wrongTimes are beyond the ends.
var wrongTimes = []int{api.MaxTime + 1, -api.MaxTime - 1, api.MaxMark, api.NoMark, math.MaxInt, math.MaxInt - 1, math.MinInt, math.MinInt + 1}

func TestUnit(t *testing.T) {
	for _, c := range shapes {
		wantUnit(t, c.q, c.unit)
	}
}

// TestUnitByTrial holds Unit of all small queries against the greatest number that divides both; of too many windows or parts there is none.
func TestUnitByTrial(t *testing.T) {
	for size := 1; size <= 300; size++ {
		wantUnit(t, tumbling(size), size)
		for slide := 1; slide <= size; slide++ {
			unit := slide
			for size%unit != 0 || slide%unit != 0 {
				unit--
			}
			if size > 64*slide || size > 256*unit {
				wantNoUnit(t, sliding(size, slide))
				continue
			}
			wantUnit(t, sliding(size, slide), unit)
		}
	}
}

// TestAtByHand: the part of a time below 0 begins below it, as one above does; a time at a part's end is the next one's.
func TestAtByHand(t *testing.T) {
	for _, c := range []struct {
		q                api.Query
		time, start, end int
	}{
		{tumbling(5), 0, 0, 5}, {tumbling(5), 4, 0, 5}, {tumbling(5), 5, 5, 10}, {tumbling(5), 9, 5, 10}, {tumbling(5), 10, 10, 15},
		{tumbling(5), -1, -5, 0}, {tumbling(5), -4, -5, 0}, {tumbling(5), -5, -5, 0}, {tumbling(5), -6, -10, -5}, {tumbling(5), -10, -10, -5}, {tumbling(5), -11, -15, -10},
		{tumbling(1), 0, 0, 1}, {tumbling(1), 7, 7, 8}, {tumbling(1), -7, -7, -6},
		{sliding(6, 3), 2, 0, 3}, {sliding(6, 3), 3, 3, 6}, {sliding(6, 3), -1, -3, 0}, {sliding(6, 3), -3, -3, 0}, {sliding(6, 3), -4, -6, -3},
		{sliding(6, 4), 1, 0, 2}, {sliding(6, 4), 2, 2, 4}, {sliding(6, 4), -1, -2, 0}, {sliding(6, 4), -2, -2, 0}, {sliding(6, 4), -3, -4, -2},
		{sliding(5, 2), 3, 3, 4}, {sliding(5, 2), -3, -3, -2}, {sliding(5, 5), 6, 5, 10}, {sliding(5, 5), -6, -10, -5},
		{tumbling(api.MaxSpan), api.MaxTime, api.MaxTime, api.MaxTime + api.MaxSpan}, {tumbling(api.MaxSpan), -api.MaxTime, -api.MaxTime, api.MaxSpan - api.MaxTime},
		{tumbling(1), api.MaxTime, api.MaxTime, api.MaxTime + 1}, {tumbling(1), -api.MaxTime, -api.MaxTime, 1 - api.MaxTime},
		// Three do not divide MaxTime: the first part begins below the least time.
		{tumbling(3), api.MaxTime, api.MaxTime - 1, api.MaxTime + 2}, {tumbling(3), -api.MaxTime, -api.MaxTime - 2, 1 - api.MaxTime},
		{sliding(9, 6), api.MaxTime, api.MaxTime - 1, api.MaxTime + 2}, {sliding(9, 6), -api.MaxTime, -api.MaxTime - 2, 1 - api.MaxTime},
	} {
		wantAt(t, c.q, c.time, api.Span{Start: c.start, End: c.end})
	}
}

// TestAtInARow counts up through all small times, without a division.
func TestAtInARow(t *testing.T) {
	for _, c := range shapes {
		if c.unit > 300 {
			continue
		}
		s := api.Span{Start: -3 * c.unit, End: -2 * c.unit}
		for time := -3 * c.unit; time < 3*c.unit; time++ {
			if time == s.End {
				s = api.Span{Start: s.End, End: s.End + c.unit}
			}
			wantAt(t, c.q, time, s)
		}
	}
}

// TestAtTheEnds holds At against division in numbers without ends.
func TestAtTheEnds(t *testing.T) {
	for _, c := range shapes {
		for _, time := range farTimes {
			// Of a divisor above 0, big's Mod is what is left above the multiple below.
			left := new(big.Int).Mod(big.NewInt(int64(time)), big.NewInt(int64(c.unit)))
			start := time - int(left.Int64())
			wantAt(t, c.q, time, api.Span{Start: start, End: start + c.unit})
		}
	}
}

func TestCutByHand(t *testing.T) {
	for _, c := range []struct {
		q api.Query
		// Where the window begins, the parts meet and it ends.
		edges []int
	}{
		{tumbling(5), []int{0, 5}}, {tumbling(5), []int{10, 15}}, {tumbling(5), []int{-5, 0}}, {tumbling(1), []int{-1, 0}},
		{sliding(5, 5), []int{5, 10}}, {sliding(1, 1), []int{3, 4}}, {sliding(3, 1), []int{7, 8, 9, 10}},
		{sliding(6, 3), []int{0, 3, 6}}, {sliding(6, 3), []int{3, 6, 9}}, {sliding(6, 3), []int{-3, 0, 3}}, {sliding(6, 3), []int{-9, -6, -3}},
		{sliding(6, 4), []int{4, 6, 8, 10}}, {sliding(6, 4), []int{-4, -2, 0, 2}}, {sliding(5, 2), []int{-2, -1, 0, 1, 2, 3}},
	} {
		var want []api.Span
		for i := range len(c.edges) - 1 {
			want = append(want, api.Span{Start: c.edges[i], End: c.edges[i+1]})
		}
		wantCut(t, c.q, api.Span{Start: c.edges[0], End: c.edges[len(c.edges)-1]}, want)
	}
}

// TestCutBySearch holds Cut of all small spans, by the chapter's words, against a walk.
func TestCutBySearch(t *testing.T) {
	for size := 1; size <= 12; size++ {
		for slide := 0; slide <= size; slide++ {
			q, step, unit := sliding(size, slide), slide, slide
			if slide == 0 {
				q, step, unit = tumbling(size), size, size
			}
			for size%unit != 0 || step%unit != 0 {
				unit--
			}
			for start := -30; start <= 30; start++ {
				for end := -30; end <= 45; end++ {
					s := api.Span{Start: start, End: end}
					if start%step != 0 || end-start != size {
						wantNoCut(t, q, s)
						continue
					}
					wantCut(t, q, s, row(start, unit, size/unit))
				}
			}
		}
	}
}

// TestCutOfEachWindow: each window of a time is made of parts, each that of its own times, one of them that of the time; the spans beside it are no windows.
func TestCutOfEachWindow(t *testing.T) {
	for _, c := range shapes {
		for _, time := range farTimes {
			part, _ := slice.At(c.q, time)
			windows, _ := window.Of(c.q, time)
			for _, w := range windows {
				parts := row(w.Start, c.unit, c.q.Size/c.unit)
				wantCut(t, c.q, w, parts)
				if !slices.Contains(parts, part) || parts[len(parts)-1].End != w.End {
					t.Errorf("P5.2: %v: the parts of %v, %v, have no %v", c.q, w, parts, part)
				}
				for _, p := range parts {
					if at := max(p.Start, -api.MaxTime); at < p.End && at <= api.MaxTime {
						wantAt(t, c.q, at, p)
					}
				}
				wantNoCut(t, c.q, api.Span{Start: w.Start, End: w.End + 1})
				wantNoCut(t, c.q, api.Span{Start: w.Start, End: w.End - 1})
				wantNoCut(t, c.q, api.Span{Start: w.Start - 1, End: w.End})
				wantNoCut(t, c.q, api.Span{Start: w.Start + 1, End: w.End})
				wantNoCut(t, c.q, api.Span{Start: w.End, End: w.Start})
			}
		}
	}
}

// TestCutMostParts: MaxSlices parts, and not one more.
func TestCutMostParts(t *testing.T) {
	for _, q := range []api.Query{sliding(256, 5), sliding(256, 255), sliding(2560, 90), sliding(api.MaxSpan, api.MaxSpan/256*9)} {
		s := api.Span{Start: -q.Slide, End: q.Size - q.Slide}
		got, e := slice.Cut(q, s)
		if len(got) != api.MaxSlices || e != api.OK {
			t.Errorf("P5.2: Cut(%v, %v): %d parts, error %d; want %d", q, s, len(got), e, api.MaxSlices)
		}
	}
}

// TestCutAtTheEnds: a window may lie beyond the times but for one; where it holds none of them, it is none.
func TestCutAtTheEnds(t *testing.T) {
	span := func(start int, length int) api.Span { return api.Span{Start: start, End: start + length} }
	for _, c := range []struct {
		q           api.Query
		start, unit int
		holds       bool
	}{
		{tumbling(1), api.MaxTime, 1, true}, {tumbling(1), api.MaxTime + 1, 1, false}, {tumbling(1), -api.MaxTime, 1, true}, {tumbling(1), -api.MaxTime - 1, 1, false},
		{tumbling(4), api.MaxTime, 4, true}, {tumbling(4), api.MaxTime + 4, 4, false}, {tumbling(4), -api.MaxTime, 4, true}, {tumbling(4), -api.MaxTime - 4, 4, false},
		{tumbling(3), api.MaxTime - 1, 3, true}, {tumbling(3), api.MaxTime + 2, 3, false}, {tumbling(3), -api.MaxTime - 2, 3, true}, {tumbling(3), -api.MaxTime - 5, 3, false},
		{tumbling(api.MaxSpan), api.MaxTime, api.MaxSpan, true}, {tumbling(api.MaxSpan), api.MaxTime + api.MaxSpan, api.MaxSpan, false},
		{tumbling(api.MaxSpan), -api.MaxTime, api.MaxSpan, true}, {tumbling(api.MaxSpan), -api.MaxTime - api.MaxSpan, api.MaxSpan, false},
		{sliding(64, 1), api.MaxTime, 1, true}, {sliding(64, 1), api.MaxTime + 1, 1, false}, {sliding(64, 1), -api.MaxTime - 63, 1, true}, {sliding(64, 1), -api.MaxTime - 64, 1, false},
		{sliding(6, 4), api.MaxTime, 2, true}, {sliding(6, 4), api.MaxTime + 4, 2, false}, {sliding(6, 4), -api.MaxTime - 4, 2, true}, {sliding(6, 4), -api.MaxTime - 8, 2, false},
		{sliding(8, 4), api.MaxTime, 4, true}, {sliding(8, 4), api.MaxTime + 4, 4, false}, {sliding(8, 4), -api.MaxTime - 4, 4, true}, {sliding(8, 4), -api.MaxTime - 8, 4, false},
		{sliding(api.MaxSpan, api.MaxSpan/2), -api.MaxTime - api.MaxSpan/2, api.MaxSpan / 2, true}, {sliding(api.MaxSpan, api.MaxSpan/2), -api.MaxTime - api.MaxSpan, api.MaxSpan / 2, false},
	} {
		s := span(c.start, c.q.Size)
		if !c.holds {
			wantNoCut(t, c.q, s)
			continue
		}
		wantCut(t, c.q, s, row(c.start, c.unit, c.q.Size/c.unit))
	}
}

// TestWrongSpans: ends that may be any numbers, far from the times, turned about, and as far apart as a window is long only where counting turns round.
func TestWrongSpans(t *testing.T) {
	far := []int{math.MinInt, math.MinInt + 1, math.MinInt / 2, api.NoMark, api.MaxMark, math.MaxInt / 2, math.MaxInt - 1, math.MaxInt}
	for _, c := range shapes {
		length := c.q.Size
		for _, start := range far {
			// The multiples of the length beside start are Starts of windows, were there such times.
			below := start - start%length
			for _, start := range []int{start, below, below - length, below + length} {
				wantNoCut(t, c.q, api.Span{Start: start, End: start + length})
				wantNoCut(t, c.q, api.Span{Start: start, End: 0})
				wantNoCut(t, c.q, api.Span{Start: 0, End: start})
			}
			for _, end := range far {
				wantNoCut(t, c.q, api.Span{Start: start, End: end})
			}
		}
		for _, s := range []api.Span{{}, {Start: length}, {Start: -length, End: -2 * length}, {End: -length}, {End: 2 * length}, {End: length + 1}, {Start: -length, End: length}} {
			wantNoCut(t, c.q, s)
		}
	}
}

func TestWrongQueries(t *testing.T) {
	for _, q := range badQueries {
		wantNoUnit(t, q)
		for _, time := range append(slices.Clone(farTimes), wrongTimes...) {
			wantNoAt(t, q, time)
		}
		for _, s := range []api.Span{{}, {End: 1}, {End: 5}, {Start: -5}, {End: 6}, {Start: 6, End: 12}, {End: q.Size}, {Start: q.Size, End: 2 * q.Size}, {Start: 1, End: 7}} {
			wantNoCut(t, q, s)
		}
	}
}

func TestWrongTimes(t *testing.T) {
	for _, c := range shapes {
		for _, time := range wrongTimes {
			wantNoAt(t, c.q, time)
		}
	}
}

// TestRestHasNoSay: Agg, Bounds and Rank, where they may be, have no say in the parts.
func TestRestHasNoSay(t *testing.T) {
	for _, c := range shapes {
		qs := []api.Query{told(c.q, api.AggHist, 0, 3), told(c.q, api.AggRank, 0, -9, 9), told(c.q, api.AggRank, api.MaxRank, 1, 2, 3, 4, 5, 6, 7, 8)}
		for agg := api.AggCount; agg <= api.AggLast; agg++ {
			qs = append(qs, told(c.q, agg, 0), told(c.q, agg, 0, []int{}...))
		}
		for _, q := range qs {
			wantUnit(t, q, c.unit)
			wantAt(t, q, 0, api.Span{End: c.unit})
			wantAt(t, q, -1, api.Span{Start: -c.unit})
			wantCut(t, q, api.Span{End: q.Size}, row(0, c.unit, q.Size/c.unit))
		}
	}
}

// TestNothingShared: R4, for what is told and for what is refused.
func TestNothingShared(t *testing.T) {
	room := []int{0, 5, 91, 92}
	had := slices.Clone(room)
	for _, agg := range []int{api.AggHist, api.AggCount} {
		for _, shape := range []api.Query{tumbling(4), sliding(4, 1), {Kind: api.KindSession, Size: 4}} {
			q := told(shape, agg, 0, room[:2]...)
			q.Bounds = room[:2]
			held, s := q, api.Span{Start: 4, End: 8}
			slice.Unit(q)
			slice.At(q, 9)
			left, _ := slice.Cut(q, s)
			right, _ := slice.Cut(q, s)
			want := slices.Clone(right)
			left = left[:cap(left)]
			for i := range left {
				left[i] = api.Span{Start: -77, End: -77}
			}
			if !slices.Equal(right, want) {
				t.Errorf("R4: %v: two answers share a list", q)
			}
			if again, _ := slice.Cut(q, s); !slices.Equal(again, want) {
				t.Errorf("R5: %v: %v, then %v", q, want, again)
			}
			if !slices.Equal(room, had) || !reflect.DeepEqual(q, held) {
				t.Fatalf("R4: %v: what was handed in changed: %v", q, room)
			}
		}
	}
}

// TestTogether: plain functions, from several goroutines at one time (R5).
func TestTogether(t *testing.T) {
	q := sliding(6, 4)
	var all sync.WaitGroup
	for i := range 8 {
		all.Go(func() {
			for n := range 300 {
				start := 4 * (n - 150) * (i + 1)
				wantUnit(t, q, 2)
				wantAt(t, q, start+1, api.Span{Start: start, End: start + 2})
				wantCut(t, q, api.Span{Start: start, End: start + 6}, row(start, 2, 3))
				wantNoCut(t, q, api.Span{Start: start + 2, End: start + 8})
			}
		})
	}
	all.Wait()
}
