package admit_test

import (
	"math"
	"reflect"
	"slices"
	"sync"
	"testing"

	"bourne/admit"
	"bourne/api"
)

// good gives a config that may be, well inside of all limits.
func good() api.Config {
	return api.Config{Queries: []api.Query{{Size: 10}, {Kind: api.KindSession, Size: 5}}, Late: 7, Room: 3, Series: 2, Sources: 2}
}

// least gives the smallest config that may be, most the greatest one.
func least() api.Config {
	return api.Config{Queries: queries(1), Room: 1, Series: 1, Sources: 1}
}

func most() api.Config {
	return api.Config{Queries: queries(api.MaxQueries), Late: api.MaxLate, Room: api.MaxRoom, Series: api.MaxSeries, Sources: api.MaxSources}
}

// queries gives so many queries that may be, of each Kind by turns.
func queries(n int) []api.Query {
	kinds := []api.Query{
		{Kind: api.KindSliding, Size: 256, Slide: 5, Agg: api.AggRank, Bounds: []int{-9, 9}, Rank: api.MaxRank},
		{Kind: api.KindTumbling, Size: api.MaxSpan, Agg: api.AggHist, Bounds: []int{0}},
		{Kind: api.KindSession, Size: 1, Agg: api.AggLast},
	}
	out := make([]api.Query, 0, n)
	for i := range n {
		out = append(out, kinds[i%len(kinds)])
	}
	return out
}

// wrongQueries may not be, each of another reason.
var wrongQueries = []api.Query{
	{}, {Size: -1}, {Size: api.MaxSpan + 1}, {Kind: -1, Size: 5}, {Kind: 3, Size: 5}, {Agg: -1, Size: 5}, {Agg: 8, Size: 5},
	{Size: 5, Slide: 5}, {Kind: api.KindSession, Size: 5, Slide: 1}, {Kind: api.KindSliding, Size: 5}, {Kind: api.KindSliding, Size: 5, Slide: 6},
	{Kind: api.KindSliding, Size: 65, Slide: 1}, {Kind: api.KindSliding, Size: 257, Slide: 256},
	{Size: 5, Agg: api.AggHist}, {Size: 5, Bounds: []int{1}}, {Size: 5, Agg: api.AggRank, Bounds: []int{2, 1}},
	{Size: 5, Agg: api.AggRank, Bounds: []int{1}, Rank: api.MaxRank + 1}, {Size: 5, Rank: 1},
}

// wantMay holds both calls against a config that may be.
func wantMay(t *testing.T, c api.Config) {
	t.Helper()
	if !admit.May(c) {
		t.Errorf("P14.1: May(%+v): false", c)
	}
	if got, e := admit.Verdict(c, 0, 0, 0, false, api.Op{}); got != api.VerdictTake || e != api.OK {
		t.Errorf("P14.1: Verdict(%+v): %d, error %d; want a take", c, got, e)
	}
}

// wantNone holds both calls against a config that may not be, whatever the sample is.
func wantNone(t *testing.T, c api.Config) {
	t.Helper()
	if admit.May(c) {
		t.Errorf("P14.1: May(%+v): true", c)
	}
	for _, o := range []api.Op{{}, {Kind: api.OpSwitch}, {Time: -50}, {Source: -1}} {
		wantRefusal(t, c, 0, 0, 0, true, o)
		wantRefusal(t, c, 0, api.MaxItems, api.MaxSeries, false, o)
	}
}

// wantRefusal holds Verdict's answer to what may not be asked, beside which all is zero (R2).
func wantRefusal(t *testing.T, c api.Config, least int, held int, known int, has bool, o api.Op) {
	t.Helper()
	if got, e := admit.Verdict(c, least, held, known, has, o); got != 0 || e != api.ErrAdmitForm {
		t.Errorf("P14.1: Verdict(%+v, %d, %d, %d, %v, %+v): %d, error %d; want 0, error %d", c, least, held, known, has, o, got, e, api.ErrAdmitForm)
	}
}

// wantVerdict holds Verdict against want.
func wantVerdict(t *testing.T, c api.Config, least int, held int, known int, has bool, o api.Op, want int) {
	t.Helper()
	if got, e := admit.Verdict(c, least, held, known, has, o); got != want || e != api.OK {
		t.Errorf("P14.1: Verdict(%+v, %d, %d, %d, %v, %+v): %d, error %d; want %d", c, least, held, known, has, o, got, e, want)
	}
}

// TestMayLimits holds each number of a config at the ends of what it may be, and beyond them, in small and in great configs.
func TestMayLimits(t *testing.T) {
	for _, c := range []api.Config{good(), least(), most()} {
		wantMay(t, c)
		for _, x := range []struct {
			field     *int
			low, high int
		}{{&c.Late, 0, 1073741824}, {&c.Room, 1, 4096}, {&c.Series, 1, 64}, {&c.Sources, 1, 8}} {
			had := *x.field
			for _, *x.field = range []int{x.low, x.low + 1, x.high / 2, x.high - 1, x.high} {
				wantMay(t, c)
			}
			for _, *x.field = range []int{x.low - 1, x.low - 2, -x.high, x.high + 1, x.high + 2, 2 * x.high, 1 << 32, math.MaxInt, math.MinInt} {
				wantNone(t, c)
			}
			*x.field = had
		}
	}
	wantNone(t, api.Config{})
	wantNone(t, api.Config{Late: -1, Room: -1, Series: -1, Sources: -1})
}

// TestMayQueries holds how many there may be, and that each one must be one that may.
func TestMayQueries(t *testing.T) {
	for _, c := range []api.Config{good(), least(), most()} {
		for n := 1; n <= 8; n++ {
			c.Queries = queries(n)
			wantMay(t, c)
			for i := range n {
				had := c.Queries[i]
				for _, c.Queries[i] = range wrongQueries {
					wantNone(t, c)
				}
				c.Queries[i] = had
			}
			// Some may be alike.
			c.Queries = slices.Repeat(queries(1), n)
			wantMay(t, c)
		}
		for _, c.Queries = range [][]api.Query{nil, {}, queries(9), queries(10), queries(16), queries(256), queries(257), wrongQueries} {
			wantNone(t, c)
		}
	}
}

// TestMayEmptyBounds: an empty list and nil are one.
func TestMayEmptyBounds(t *testing.T) {
	c := good()
	c.Queries[0].Bounds = []int{}
	wantMay(t, c)
	c.Queries[0].Agg = api.AggHist
	wantNone(t, c)
}

// TestManyQueries: a list that is far too long is not gone through.
func TestManyQueries(t *testing.T) {
	c := good()
	c.Queries = queries(1 << 18)
	for range 20000 {
		wantNone(t, c)
	}
}

// TestByHand holds each verdict alone and ahead of those behind it.
func TestByHand(t *testing.T) {
	c := good()
	for _, row := range []struct {
		least, held, known int
		has                bool
		o                  api.Op
		want               int
	}{
		{100, 0, 0, false, api.Op{Time: 100}, api.VerdictTake},
		{100, 2, 1, false, api.Op{Time: 93, Source: 1, Series: 5, Value: -8}, api.VerdictTake},
		{100, 2, 2, true, api.Op{Time: 93}, api.VerdictTake},
		{100, 2, 99, true, api.Op{Time: 93}, api.VerdictTake},
		{100, 3, 0, false, api.Op{Time: 93}, api.VerdictFull},
		{100, 3, 99, true, api.Op{Time: 93}, api.VerdictFull},
		{100, 99, 1, false, api.Op{Time: 93}, api.VerdictFull},
		{100, 2, 2, false, api.Op{Time: 93}, api.VerdictSeries},
		{100, 3, 2, false, api.Op{Time: 93}, api.VerdictSeries},
		{100, 99, 99, false, api.Op{Time: 93}, api.VerdictSeries},
		{100, 2, 2, true, api.Op{Time: 92}, api.VerdictLate},
		{100, 3, 2, true, api.Op{Time: 92}, api.VerdictLate},
		{100, 2, 2, false, api.Op{Time: 92}, api.VerdictLate},
		{100, 3, 2, false, api.Op{Time: -100}, api.VerdictLate},
		{100, 0, 0, true, api.Op{Time: 93, Source: 2}, api.VerdictForm},
		{100, 3, 2, false, api.Op{Time: 92, Source: 2}, api.VerdictForm},
		{100, 0, 0, true, api.Op{Kind: api.OpMark, Time: 200}, api.VerdictForm},
		{100, 3, 2, false, api.Op{Kind: api.OpSwitch}, api.VerdictForm},
		{100, 0, 0, true, api.Op{Kind: api.OpBad, Value: 4}, api.VerdictForm},
	} {
		wantVerdict(t, c, row.least, row.held, row.known, row.has, row.o, row.want)
	}
}

// TestNoMark: where no mark came no sample is late, however long ago it is; where the last one came each one is.
func TestNoMark(t *testing.T) {
	for _, c := range []api.Config{good(), least(), most()} {
		for _, time := range []int{-api.MaxTime, -1, 0, 1, api.MaxTime} {
			wantVerdict(t, c, api.NoMark, 0, 0, false, api.Op{Time: time}, api.VerdictTake)
			wantVerdict(t, c, api.MaxMark, 0, 0, true, api.Op{Time: time}, api.VerdictLate)
		}
	}
}

// TestSources: each number of sources, with sources about it.
func TestSources(t *testing.T) {
	c := good()
	for c.Sources = 1; c.Sources <= api.MaxSources; c.Sources++ {
		for source := -2; source <= api.MaxSources+2; source++ {
			want := api.VerdictTake
			if source < 0 || source >= c.Sources {
				want = api.VerdictForm
			}
			wantVerdict(t, c, 0, 0, 0, false, api.Op{Source: source}, want)
		}
	}
}

// wrongOps gives operations that are no samples that may be, about one of this time.
func wrongOps(time int) []api.Op {
	out := []api.Op{{Kind: api.OpMark, Time: time}, {Kind: api.OpSwitch}, {Kind: api.OpBad, Value: 1}, {Time: math.MaxInt}, {Time: math.MinInt}, {Time: api.MaxTime + 1}, {Time: -api.MaxTime - 1}}
	for _, kind := range []int{-1, 1, 2, 3, 4, 256, math.MaxInt, math.MinInt} {
		out = append(out, api.Op{Kind: kind, Source: 0, Series: 1, Time: time, Value: 2})
	}
	for _, source := range []int{-1, api.MaxSources, api.MaxSources + 1, math.MaxInt, math.MinInt} {
		out = append(out, api.Op{Source: source, Time: time})
	}
	for _, series := range []int{-1, api.MaxId + 1, math.MaxInt, math.MinInt} {
		out = append(out, api.Op{Series: series, Time: time})
	}
	for _, value := range []int{-api.MaxValue - 1, api.MaxValue + 1, math.MaxInt, math.MinInt} {
		out = append(out, api.Op{Value: value, Time: time})
	}
	return out
}

// goodOps gives samples that may be, of this time and of the first source.
func goodOps(time int) []api.Op {
	var out []api.Op
	for _, series := range []int{0, 1, api.MaxId} {
		for _, value := range []int{-api.MaxValue, 0, api.MaxValue} {
			out = append(out, api.Op{Series: series, Time: time, Value: value})
		}
	}
	return out
}

// about gives the numbers from low to high among n and those beside it.
func about(n int, low int, high int) []int {
	var out []int
	for _, x := range []int{n - 1, n, n + 1} {
		if low <= x && x <= high {
			out = append(out, x)
		}
	}
	return out
}

// verdictOf tells by the chapter's words, from the last rule to the first, so that each one writes over those behind it; form tells whether the sample may be.
func verdictOf(c api.Config, least int, held int, known int, has bool, time int, form bool) int {
	want := api.VerdictTake
	if held >= c.Room {
		want = api.VerdictFull
	}
	if known >= c.Series && !has {
		want = api.VerdictSeries
	}
	if time+c.Late < least {
		want = api.VerdictLate
	}
	if !form {
		want = api.VerdictForm
	}
	return want
}

// TestAllTogether holds all verdicts against the chapter's words, with each number about its limit.
func TestAllTogether(t *testing.T) {
	for _, c := range []api.Config{good(), least(), most()} {
		marks := []int{api.NoMark, api.NoMark + 1, api.NoMark + c.Late, -api.MaxTime, -api.MaxTime + c.Late, -api.MaxTime + c.Late + 1, -1, 0, 1, 100, api.MaxTime, api.MaxTime + c.Late, api.MaxTime + c.Late + 1, api.MaxMark - 1, api.MaxMark}
		for _, least := range marks {
			times := append(about(least-c.Late, -api.MaxTime, api.MaxTime), -api.MaxTime, 0, api.MaxTime)
			for _, held := range append(about(c.Room, 0, math.MaxInt), 0, math.MaxInt) {
				for _, known := range append(about(c.Series, 0, math.MaxInt), 0, math.MaxInt) {
					for _, has := range []bool{false, true} {
						for _, time := range times {
							wantAllVerdicts(t, c, least, held, known, has, time)
						}
					}
				}
			}
		}
	}
}

// wantAllVerdicts holds the verdicts of samples of this time, and of what is none.
func wantAllVerdicts(t *testing.T, c api.Config, least int, held int, known int, has bool, time int) {
	t.Helper()
	for _, o := range goodOps(time) {
		wantVerdict(t, c, least, held, known, has, o, verdictOf(c, least, held, known, has, time, true))
	}
	for _, o := range wrongOps(time) {
		wantVerdict(t, c, least, held, known, has, o, verdictOf(c, least, held, known, has, time, false))
	}
}

// TestWrong: each wrong number alone, and beside others, is refused ahead of any verdict.
func TestWrong(t *testing.T) {
	wrongLeast := []int{api.NoMark - 1, api.NoMark - 2, 2 * api.NoMark, math.MinInt, math.MinInt + 1, api.MaxMark + 1, api.MaxMark + 2, 2 * api.MaxMark, math.MaxInt}
	wrongCounts := []int{-1, -2, -api.MaxRoom, math.MinInt, math.MinInt + 1}
	for _, c := range []api.Config{good(), least(), most(), {}} {
		for _, has := range []bool{false, true} {
			for _, o := range append(wrongOps(0), goodOps(0)...) {
				for _, least := range wrongLeast {
					wantRefusal(t, c, least, 0, 0, has, o)
					wantRefusal(t, c, least, math.MaxInt, math.MaxInt, has, o)
					wantRefusal(t, c, least, -1, -1, has, o)
				}
				for _, count := range wrongCounts {
					wantRefusal(t, c, 0, count, 0, has, o)
					wantRefusal(t, c, 0, 0, count, has, o)
					wantRefusal(t, c, api.NoMark, count, math.MaxInt, has, o)
					wantRefusal(t, c, api.MaxMark, math.MaxInt, count, has, o)
				}
			}
		}
	}
}

// TestKeepsNothing: what is handed in is not changed, its spare room neither (R4), and an answer hangs on its arguments alone (R5).
func TestKeepsNothing(t *testing.T) {
	room, bounds := queries(8), []int{0, 5, 91, 92}
	room[0].Bounds = bounds[:2]
	held, heldBounds := slices.Clone(room), slices.Clone(bounds)
	c := good()
	c.Queries = room[:2]
	want := c
	for range 3 {
		wantMay(t, c)
		wantVerdict(t, c, 100, 3, 0, false, api.Op{Time: 93}, api.VerdictFull)
		wantVerdict(t, c, 100, 2, 2, false, api.Op{Time: 93}, api.VerdictSeries)
		wantVerdict(t, c, 100, 3, 2, false, api.Op{Time: 92}, api.VerdictLate)
		wantVerdict(t, c, 100, 2, 0, false, api.Op{Time: 93}, api.VerdictTake)
		wantRefusal(t, c, 100, -1, 0, false, api.Op{Time: 93})
		wantNone(t, api.Config{Queries: room[:2]})
	}
	if !reflect.DeepEqual(c, want) || !reflect.DeepEqual(room, held) || !slices.Equal(bounds, heldBounds) {
		t.Errorf("R4: what was handed in changed: %+v, %+v, %v", c, room, bounds)
	}
}

// TestTogether: plain functions, from several goroutines at one time (R5).
func TestTogether(t *testing.T) {
	c := most()
	var all sync.WaitGroup
	for i := range 8 {
		all.Go(func() {
			for n := range 500 {
				wantMay(t, c)
				wantVerdict(t, c, c.Late+n, i, n, true, api.Op{Source: i, Time: n}, api.VerdictTake)
				wantVerdict(t, c, c.Late+n, i, n, true, api.Op{Source: i, Time: n - 1}, api.VerdictLate)
				wantVerdict(t, c, c.Late+n, c.Room+n, 0, false, api.Op{Source: i, Time: n}, api.VerdictFull)
				wantVerdict(t, c, c.Late+n, n, c.Series+i, false, api.Op{Source: i, Time: n}, api.VerdictSeries)
				wantRefusal(t, c, 0, -1-n, 0, true, api.Op{})
			}
		})
	}
	all.Wait()
}
