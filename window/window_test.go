package window_test

import (
	"math"
	"math/big"
	"reflect"
	"slices"
	"sync"
	"testing"

	"bourne/api"
	"bourne/window"
)

// tumbling and sliding give queries of that Kind that tell a count.
func tumbling(size int) api.Query {
	return api.Query{Kind: api.KindTumbling, Size: size}
}

func sliding(size int, slide int) api.Query {
	return api.Query{Kind: api.KindSliding, Size: size, Slide: slide}
}

func session(gap int) api.Query {
	return api.Query{Kind: api.KindSession, Size: gap}
}

// told gives a query of windows of length 5 with this Agg, these bounds and this rank.
func told(agg int, rank int, bounds ...int) api.Query {
	return api.Query{Agg: agg, Size: 5, Bounds: bounds, Rank: rank}
}

// spans gives spans of a length by their Starts.
func spans(size int, starts ...int) []api.Span {
	var out []api.Span
	for _, s := range starts {
		out = append(out, api.Span{Start: s, End: s + size})
	}
	return out
}

// wantOf holds Of's answer against want.
func wantOf(t *testing.T, q api.Query, time int, want []api.Span) {
	t.Helper()
	if got, e := window.Of(q, time); e != api.OK || !slices.Equal(got, want) {
		t.Errorf("P4.1: Of(%v, %d): %v, error %d; want %v", q, time, got, e, want)
	}
}

// wantRefusal holds Of's answer against ErrWindowForm, beside which there is no span (R2).
func wantRefusal(t *testing.T, q api.Query, time int) {
	t.Helper()
	if got, e := window.Of(q, time); e != api.ErrWindowForm || len(got) != 0 {
		t.Errorf("P4.1: Of(%v, %d): %v, error %d; want nothing, error %d", q, time, got, e, api.ErrWindowForm)
	}
}

// goodQueries may be; badQueries may not.
var (
	goodQueries = []api.Query{
		tumbling(1), tumbling(2), tumbling(65), tumbling(257), tumbling(api.MaxSpan - 1), tumbling(api.MaxSpan),
		session(1), session(65), session(257), session(api.MaxSpan),

		sliding(1, 1), sliding(5, 5), sliding(5, 4), sliding(5, 2), sliding(5, 1),
		// As many windows as may hold a time.
		sliding(64, 1), sliding(63, 1), sliding(127, 2), sliding(128, 2), sliding(190, 3), sliding(191, 3), sliding(192, 3),
		sliding(6400, 100), sliding(api.MaxSpan, api.MaxSpan/64),
		// As many parts as there may be.
		sliding(255, 7), sliding(256, 5), sliding(256, 9), sliding(256, 255), sliding(512, 18), sliding(2560, 90),
		sliding(api.MaxSpan, api.MaxSpan/256*9), sliding(api.MaxSpan, api.MaxSpan/256*255), sliding(api.MaxSpan, api.MaxSpan),

		told(api.AggCount, 0), told(api.AggSum, 0), told(api.AggMin, 0), told(api.AggMax, 0), told(api.AggFirst, 0), told(api.AggLast, 0),
		told(api.AggHist, 0, 0), told(api.AggHist, 0, -api.MaxValue), told(api.AggHist, 0, api.MaxValue), told(api.AggHist, 0, -api.MaxValue, -1, 0, api.MaxValue),
		told(api.AggHist, 0, 1, 2, 3, 4, 5, 6, 7, 8),
		told(api.AggRank, 0, 0), told(api.AggRank, 1, -3, 3), told(api.AggRank, 999, -api.MaxValue, api.MaxValue), told(api.AggRank, api.MaxRank, 1, 2, 3, 4, 5, 6, 7, 8),
	}
	badQueries = []api.Query{
		{},
		{Kind: -1, Size: 5}, {Kind: api.KindSession + 1, Size: 5}, {Kind: -1, Size: 5, Slide: 5}, {Kind: api.KindSession + 1, Size: 5, Slide: 5},
		{Kind: math.MinInt, Size: 5}, {Kind: math.MaxInt, Size: 5}, {Kind: 256, Size: 5}, {Kind: 257, Size: 5, Slide: 5},

		tumbling(0), tumbling(-1), tumbling(api.MaxSpan + 1), tumbling(math.MinInt), tumbling(math.MaxInt),
		session(0), session(-1), session(api.MaxSpan + 1), session(math.MinInt), session(math.MaxInt),
		sliding(0, 0), sliding(0, 1), sliding(-1, 1), sliding(-1, -1), sliding(-5, -2), sliding(math.MinInt, 1), sliding(math.MinInt, math.MinInt),
		sliding(api.MaxSpan+1, api.MaxSpan+1), sliding(2*api.MaxSpan, api.MaxSpan), sliding(math.MaxInt, math.MaxInt),

		sliding(5, 0), sliding(5, -1), sliding(5, -5), sliding(5, 6), sliding(5, 10), sliding(1, 2), sliding(5, math.MinInt), sliding(5, math.MaxInt),
		sliding(api.MaxSpan, api.MaxSpan+1), sliding(api.MaxSpan, math.MaxInt),
		// One window more than may hold a time; each has no more parts than there may be.
		sliding(65, 1), sliding(66, 1), sliding(256, 1), sliding(129, 2), sliding(130, 2), sliding(193, 3), sliding(194, 3), sliding(195, 3), sliding(6500, 100),
		sliding(api.MaxSpan, api.MaxSpan/128),
		// One part more than there may be; of each no more windows hold a time than may.
		sliding(257, 9), sliding(257, 128), sliding(257, 255), sliding(257, 256), sliding(514, 18), sliding(514, 512), sliding(2570, 90),
		sliding(api.MaxSpan, api.MaxSpan-1), sliding(api.MaxSpan, api.MaxSpan/512*511), sliding(api.MaxSpan-1, api.MaxSpan-2),

		{Kind: api.KindTumbling, Size: 5, Slide: 1}, {Kind: api.KindTumbling, Size: 5, Slide: 5}, {Kind: api.KindTumbling, Size: 5, Slide: -1},
		{Kind: api.KindSession, Size: 5, Slide: 1}, {Kind: api.KindSession, Size: 5, Slide: 5}, {Kind: api.KindSession, Size: 5, Slide: -1},

		told(-1, 0), told(api.AggRank+1, 0), told(-1, 0, 1), told(api.AggRank+1, 0, 1), told(256, 0), told(math.MinInt, 0), told(math.MaxInt, 0),
		told(api.AggHist, 0), told(api.AggHist, 0, 1, 1), told(api.AggHist, 0, 2, 1), told(api.AggHist, 0, 1, 3, 2), told(api.AggHist, 0, -api.MaxValue-1), told(api.AggHist, 0, api.MaxValue+1),
		told(api.AggHist, 0, 1, 2, 3, 4, 5, 6, 7, 8, 9), told(api.AggHist, 1, 1), told(api.AggHist, -1, 1), told(api.AggHist, api.MaxRank, 1),
		told(api.AggRank, 0), told(api.AggRank, 500), told(api.AggRank, 0, 1, 1), told(api.AggRank, 0, 2, 1), told(api.AggRank, 0, 1, 3, 2), told(api.AggRank, 0, -api.MaxValue-1), told(api.AggRank, 0, api.MaxValue+1),
		told(api.AggRank, 0, 1, 2, 3, 4, 5, 6, 7, 8, 9), told(api.AggRank, -1, 1), told(api.AggRank, api.MaxRank+1, 1), told(api.AggRank, math.MinInt, 1), told(api.AggRank, math.MaxInt, 1),
		told(api.AggCount, 0, 1), told(api.AggSum, 0, 1), told(api.AggMin, 0, 1), told(api.AggMax, 0, 1), told(api.AggFirst, 0, 1), told(api.AggLast, 0, 1, 2),
		told(api.AggCount, 1), told(api.AggSum, 500), told(api.AggMin, -1), told(api.AggMax, api.MaxRank), told(api.AggFirst, 1), told(api.AggLast, math.MinInt),
	}
)

func TestMay(t *testing.T) {
	for i, q := range goodQueries {
		if !window.May(q) {
			t.Errorf("P4.1: row %d: May refuses %v", i, q)
		}
	}
	for i, q := range badQueries {
		if window.May(q) {
			t.Errorf("P4.1: row %d: May takes %v", i, q)
		}
		for _, time := range []int{0, 7, -7} {
			wantRefusal(t, q, time)
		}
	}
}

// TestMayOfAll holds what May asks of Agg, Bounds and Rank with each Kind; an empty list of Bounds and nil are one.
func TestMayOfAll(t *testing.T) {
	type row struct {
		bounds []int
		may    bool
	}
	bounds := []row{{nil, false}, {[]int{}, false}, {[]int{4}, true}, {[]int{-4, 0, 4}, true}, {[]int{4, 4}, false}, {[]int{4, -4}, false}, {[]int{1, 2, 3, 4, 5, 6, 7, 8}, true}, {[]int{1, 2, 3, 4, 5, 6, 7, 8, 9}, false}}
	for _, shape := range []api.Query{tumbling(6), sliding(6, 4), session(6)} {
		for agg := -2; agg <= 10; agg++ {
			for _, b := range bounds {
				for _, rank := range []int{-1, 0, 1, 500, 1000, 1001} {
					q := shape
					q.Agg, q.Bounds, q.Rank = agg, b.bounds, rank
					want := false
					switch {
					case agg >= 0 && agg < 6:
						want = len(b.bounds) == 0 && rank == 0
					case agg == 6:
						want = b.may && rank == 0
					case agg == 7:
						want = b.may && rank >= 0 && rank <= 1000
					}
					if got := window.May(q); got != want {
						t.Errorf("P4.1: May(%v): %v", q, got)
					}
				}
			}
		}
	}
}

// TestMayOfSlides counts, for each small Size and Slide, the windows that hold a time and the parts that they share.
func TestMayOfSlides(t *testing.T) {
	for size := 1; size <= 300; size++ {
		for slide := 1; slide <= size+1; slide++ {
			panes := 0
			for start := 0; start < size; start += slide {
				panes++
			}
			unit := slide
			for size%unit != 0 || slide%unit != 0 {
				unit--
			}
			want := slide <= size && panes <= 64 && size <= 256*unit
			for _, by := range []int{1, 3, 1 << 20} {
				q := sliding(size*by, slide*by)
				if got := window.May(q); got != want {
					t.Errorf("P4.1: May(%v): %v", q, got)
				}
			}
		}
	}
}

func TestOfTumbling(t *testing.T) {
	for _, c := range []struct{ size, time, start int }{
		{1, 0, 0}, {1, 1, 1}, {1, -1, -1},
		{5, 0, 0}, {5, 4, 0}, {5, 5, 5}, {5, 9, 5}, {5, 10, 10},
		{5, -1, -5}, {5, -4, -5}, {5, -5, -5}, {5, -6, -10}, {5, -10, -10}, {5, -11, -15},
		{api.MaxSpan, 0, 0}, {api.MaxSpan, -1, -api.MaxSpan}, {api.MaxSpan, api.MaxSpan - 1, 0}, {api.MaxSpan, api.MaxSpan, api.MaxSpan},
		{api.MaxSpan, api.MaxTime, api.MaxTime}, {api.MaxSpan, api.MaxTime - 1, api.MaxTime - api.MaxSpan},
		{api.MaxSpan, -api.MaxTime, -api.MaxTime}, {api.MaxSpan, 1 - api.MaxTime, -api.MaxTime},
		{1, api.MaxTime, api.MaxTime}, {1, -api.MaxTime, -api.MaxTime},
		// Three do not divide MaxTime, which is a power of two: the first window begins below the least time.
		{3, api.MaxTime, api.MaxTime - 1}, {3, -api.MaxTime, -api.MaxTime - 2},
		{api.MaxSpan - 1, -api.MaxTime, -1025 * (api.MaxSpan - 1)}, {api.MaxSpan - 1, api.MaxTime, 1024 * (api.MaxSpan - 1)},
	} {
		wantOf(t, tumbling(c.size), c.time, spans(c.size, c.start))
	}
}

func TestOfSliding(t *testing.T) {
	for _, c := range []struct {
		size, slide, time int
		starts            []int
	}{
		{1, 1, 0, []int{0}}, {1, 1, -3, []int{-3}},
		{6, 6, 5, []int{0}}, {6, 6, 6, []int{6}}, {6, 6, -1, []int{-6}}, {6, 6, -6, []int{-6}}, {6, 6, -7, []int{-12}},
		{6, 3, 0, []int{-3, 0}}, {6, 3, 2, []int{-3, 0}}, {6, 3, 3, []int{0, 3}}, {6, 3, -1, []int{-6, -3}}, {6, 3, -3, []int{-6, -3}}, {6, 3, -4, []int{-9, -6}},
		// Slide does not divide Size: by turns more and fewer windows hold a time.
		{5, 3, 0, []int{-3, 0}}, {5, 3, 1, []int{-3, 0}}, {5, 3, 2, []int{0}}, {5, 3, 3, []int{0, 3}}, {5, 3, 5, []int{3}},
		{5, 3, -1, []int{-3}}, {5, 3, -2, []int{-6, -3}}, {5, 3, -3, []int{-6, -3}}, {5, 3, -4, []int{-6}}, {5, 3, -5, []int{-9, -6}},
		{5, 1, 0, []int{-4, -3, -2, -1, 0}}, {5, 1, 2, []int{-2, -1, 0, 1, 2}}, {5, 1, -7, []int{-11, -10, -9, -8, -7}},
		{7, 5, 0, []int{-5, 0}}, {7, 5, 1, []int{-5, 0}}, {7, 5, 2, []int{0}}, {7, 5, 4, []int{0}}, {7, 5, 5, []int{0, 5}},
		{3, 2, api.MaxTime, []int{api.MaxTime - 2, api.MaxTime}}, {3, 2, api.MaxTime - 1, []int{api.MaxTime - 2}},
		{3, 2, -api.MaxTime, []int{-api.MaxTime - 2, -api.MaxTime}}, {3, 2, 1 - api.MaxTime, []int{-api.MaxTime}},
		{api.MaxSpan, api.MaxSpan / 2, api.MaxTime, []int{api.MaxTime - api.MaxSpan/2, api.MaxTime}},
		{api.MaxSpan, api.MaxSpan / 2, -api.MaxTime, []int{-api.MaxTime - api.MaxSpan/2, -api.MaxTime}},
		{api.MaxSpan, api.MaxSpan, -api.MaxTime, []int{-api.MaxTime}},
	} {
		wantOf(t, sliding(c.size, c.slide), c.time, spans(c.size, c.starts...))
	}
}

// TestOfBySearch holds Of, by the chapter's words, against all spans near each small time.
func TestOfBySearch(t *testing.T) {
	for size := 1; size <= 14; size++ {
		for slide := 0; slide <= size; slide++ {
			q, step := sliding(size, slide), slide
			if slide == 0 {
				q, step = tumbling(size), size
			}
			for time := -45; time <= 45; time++ {
				var want []api.Span
				for start := -70; start <= 70; start++ {
					if start%step == 0 && start <= time && time < start+size {
						want = append(want, api.Span{Start: start, End: start + size})
					}
				}
				wantOf(t, q, time, want)
			}
		}
	}
}

// farTimes are the ends of the times and what stands about their middle.
var farTimes = []int{
	-api.MaxTime, 1 - api.MaxTime, 2 - api.MaxTime, api.MaxSpan - api.MaxTime, -api.MaxSpan - 1, -api.MaxSpan, 1 - api.MaxSpan, -1000, -1,
	0, 1, 1000, api.MaxSpan - 1, api.MaxSpan, api.MaxSpan + 1, api.MaxTime - api.MaxSpan, api.MaxTime - 2, api.MaxTime - 1, api.MaxTime,
}

// TestOfAtTheEnds holds Of of each query that may be against a walk down from time, in numbers without ends.
func TestOfAtTheEnds(t *testing.T) {
	for _, q := range goodQueries {
		if q.Kind == api.KindSession {
			continue
		}
		step := q.Size
		if q.Kind == api.KindSliding {
			step = q.Slide
		}
		for _, time := range farTimes {
			// Of a divisor above 0, big's Mod is what is left above the multiple below.
			left := new(big.Int).Mod(big.NewInt(int64(time)), big.NewInt(int64(step)))
			var want []api.Span
			for start := time - int(left.Int64()); start+q.Size > time; start -= step {
				want = append(want, api.Span{Start: start, End: start + q.Size})
			}
			slices.Reverse(want)
			wantOf(t, q, time, want)
		}
	}
}

// TestOfMostPanes: MaxPanes windows hold each time where Slide divides Size, and by turns one fewer where it does not.
func TestOfMostPanes(t *testing.T) {
	for _, time := range farTimes {
		for _, q := range []api.Query{sliding(64, 1), sliding(128, 2), sliding(api.MaxSpan, api.MaxSpan/64)} {
			if got, e := window.Of(q, time); len(got) != api.MaxPanes || e != api.OK {
				t.Errorf("P4.1: Of(%v, %d): %d windows, error %d; want %d", q, time, len(got), e, api.MaxPanes)
			}
		}
		want := api.MaxPanes
		if time%2 != 0 {
			want--
		}
		if got, e := window.Of(sliding(127, 2), time); len(got) != want || e != api.OK {
			t.Errorf("P4.1: Of(127 by 2, %d): %d windows, error %d; want %d", time, len(got), e, want)
		}
	}
}

// TestOfTellsNothingElse: Agg, Bounds and Rank, where they may be, have no say in which windows hold a time.
func TestOfTellsNothingElse(t *testing.T) {
	for _, shape := range []api.Query{tumbling(5), sliding(5, 2)} {
		want, _ := window.Of(shape, -3)
		for agg := api.AggSum; agg <= api.AggLast; agg++ {
			q := shape
			q.Agg = agg
			wantOf(t, q, -3, want)
		}
		for _, rank := range []int{0, 1, api.MaxRank} {
			q := shape
			q.Agg, q.Bounds, q.Rank = api.AggRank, []int{-9, 9}, rank
			wantOf(t, q, -3, want)
		}
		hist := shape
		hist.Agg, hist.Bounds = api.AggHist, []int{3}
		wantOf(t, hist, -3, want)
	}
}

func TestWrongTimes(t *testing.T) {
	for _, time := range []int{api.MaxTime + 1, -api.MaxTime - 1, api.MaxMark, api.NoMark, math.MaxInt, math.MaxInt - 1, math.MinInt, math.MinInt + 1} {
		for _, q := range goodQueries {
			wantRefusal(t, q, time)
		}
	}
}

// TestOfSessions: a session's windows hang on its items, so that no time tells them.
func TestOfSessions(t *testing.T) {
	rank := session(5)
	rank.Agg, rank.Bounds, rank.Rank = api.AggRank, []int{1}, 500
	for _, q := range []api.Query{session(1), session(5), session(api.MaxSpan), rank} {
		if !window.May(q) {
			t.Errorf("P4.1: May refuses %v", q)
		}
		for _, time := range farTimes {
			wantRefusal(t, q, time)
		}
	}
}

// TestNothingShared: R4, for what is told and for what is refused.
func TestNothingShared(t *testing.T) {
	room := []int{0, 5, 91, 92}
	had := slices.Clone(room)
	for _, agg := range []int{api.AggHist, api.AggCount} {
		for _, shape := range []api.Query{tumbling(4), sliding(4, 1), session(4)} {
			q := shape
			q.Agg, q.Bounds = agg, room[:2]
			held := q
			window.May(q)
			left, _ := window.Of(q, 9)
			right, _ := window.Of(q, 9)
			want := slices.Clone(right)
			left = left[:cap(left)]
			for i := range left {
				left[i] = api.Span{Start: -77, End: -77}
			}
			if !slices.Equal(right, want) {
				t.Errorf("R4: %v: two answers share a list", q)
			}
			if again, _ := window.Of(q, 9); !slices.Equal(again, want) {
				t.Errorf("R5: %v: %v, then %v", q, want, again)
			}
			if !slices.Equal(room, had) || !reflect.DeepEqual(q, held) {
				t.Fatalf("R4: %v: what was handed in changed: %v", q, room)
			}
		}
	}
}

// TestTogether: plain functions, from several goroutines at one time (R5).
func TestTogether(t *testing.T) {
	q := sliding(6, 2)
	var all sync.WaitGroup
	for i := range 8 {
		all.Go(func() {
			for n := range 500 {
				at := 2 * (n - 250) * (i + 1)
				wantOf(t, q, at, spans(6, at-4, at-2, at))
				if !window.May(q) || window.May(tumbling(-n)) {
					t.Errorf("P4.1: May of two queries at one time, turn %d", n)
				}
			}
		})
	}
	all.Wait()
}
