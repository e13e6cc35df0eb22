package spec_test

import (
	"math"
	"reflect"
	"slices"
	"sort"
	"sync"
	"testing"

	"bourne/api"
	"bourne/spec"
)

// numbers is a row of numbers that looks like none.
type numbers uint32

// next gives one from 0 to below n.
func (s *numbers) next(n int) int {
	*s = *s*1664525 + 1013904223
	return int(*s>>8) % n
}

// query gives one that may be, with a size of at most so much.
func (s *numbers) query(size int) api.Query {
	q := api.Query{Kind: s.next(3), Agg: s.next(8), Size: 1 + s.next(size)}
	if q.Kind == api.KindSliding {
		q.Slide = 1 + s.next(q.Size)
	}
	if q.Agg == api.AggHist || q.Agg == api.AggRank {
		q.Bounds = [][]int{{0}, {-3, 3}, {-4, -1, 0, 2}}[s.next(3)]
	}
	if q.Agg == api.AggRank {
		q.Rank = s.next(api.MaxRank + 1)
	}
	return q
}

// config gives one that may be, of small queries.
func (s *numbers) config() api.Config {
	c := api.Config{Late: s.next(6), Room: 1, Series: 1, Sources: 1}
	for range 1 + s.next(4) {
		c.Queries = append(c.Queries, s.query(14))
	}
	return c
}

// items gives up to most, of three series, with times from -span to just below it, in no row; their Seqs are unlike.
func (s *numbers) items(most int, span int) []api.Item {
	var out []api.Item
	for i := range s.next(most + 1) {
		out = append(out, api.Item{Series: 5 * s.next(3), Time: s.next(2*span) - span, Seq: 1 + 2*i + s.next(2), Value: s.next(11) - 5})
	}
	return s.mixed(out)
}

// mixed gives xs in another row.
func (s *numbers) mixed(xs []api.Item) []api.Item {
	out := slices.Clone(xs)
	for i := range out {
		j := i + s.next(len(out)-i)
		out[i], out[j] = out[j], out[i]
	}
	return out
}

// group is a window with the items that it holds, made by the chapter's words alone.
type group struct {
	query  int
	series int
	span   api.Span
	items  []api.Item
}

// groups gives all windows of c that hold an item, by trying each Start that there could be, and all sessions.
func groups(c api.Config, xs []api.Item) []group {
	var out []group
	for _, series := range seriesOf(xs) {
		var own []api.Item
		for _, x := range xs {
			if x.Series == series {
				own = append(own, x)
			}
		}
		for place, q := range c.Queries {
			for _, g := range groupsOf(q, own) {
				g.query, g.series = place, series
				out = append(out, g)
			}
		}
	}
	return out
}

// seriesOf gives each series of xs once.
func seriesOf(xs []api.Item) []int {
	var out []int
	for _, x := range xs {
		if !slices.Contains(out, x.Series) {
			out = append(out, x.Series)
		}
	}
	return out
}

// groupsOf gives the groups that a query makes of one series' items.
func groupsOf(q api.Query, xs []api.Item) []group {
	if q.Kind == api.KindSession {
		return sessionsOf(q.Size, xs)
	}
	step := q.Size
	if q.Kind == api.KindSliding {
		step = q.Slide
	}
	least, most := xs[0].Time, xs[0].Time
	for _, x := range xs {
		least, most = min(least, x.Time), max(most, x.Time)
	}
	var out []group
	for start := least - q.Size; start <= most; start++ {
		if start%step != 0 {
			continue
		}
		g := group{span: api.Span{Start: start, End: start + q.Size}}
		for _, x := range xs {
			if start <= x.Time && x.Time < start+q.Size {
				g.items = append(g.items, x)
			}
		}
		if len(g.items) > 0 {
			out = append(out, g)
		}
	}
	return out
}

// sessionsOf puts each two items together that are less than gap apart, until none are left.
func sessionsOf(gap int, xs []api.Item) []group {
	var out []group
	left := slices.Clone(xs)
	for len(left) > 0 {
		g := group{items: left[:1:1]}
		left = left[1:]
		for grown := true; grown; {
			grown = false
			for i, x := range left {
				if slices.ContainsFunc(g.items, func(y api.Item) bool { return max(x.Time-y.Time, y.Time-x.Time) < gap }) {
					g.items = append(g.items, x)
					left = slices.Delete(slices.Clone(left), i, i+1)
					grown = true
					break
				}
			}
		}
		g.span = api.Span{Start: g.items[0].Time, End: g.items[0].Time + gap}
		for _, x := range g.items {
			g.span.Start, g.span.End = min(g.span.Start, x.Time), max(g.span.End, x.Time+gap)
		}
		out = append(out, g)
	}
	return out
}

// value gives what a query tells of items, from these alone.
func value(q api.Query, xs []api.Item) api.Out {
	row := slices.Clone(xs)
	sort.Slice(row, func(i, j int) bool {
		return row[i].Time < row[j].Time || row[i].Time == row[j].Time && row[i].Seq < row[j].Seq
	})
	var values []int
	sum := 0
	for _, x := range row {
		values = append(values, x.Value)
		sum += x.Value
	}
	sort.Ints(values)
	switch q.Agg {
	case api.AggCount:
		return api.Out{Value: len(row)}
	case api.AggSum:
		if sum > api.MaxSum || sum < -api.MaxSum {
			return api.Out{Over: true}
		}
		return api.Out{Value: sum}
	case api.AggMin:
		return api.Out{Value: values[0]}
	case api.AggMax:
		return api.Out{Value: values[len(values)-1]}
	case api.AggFirst:
		return api.Out{Value: row[0].Value}
	case api.AggLast:
		return api.Out{Value: row[len(row)-1].Value}
	case api.AggHist:
		out := api.Out{Hist: make([]int, len(q.Bounds)+1)}
		for _, v := range values {
			out.Hist[sort.SearchInts(q.Bounds, v)]++
		}
		return out
	}
	k := 1
	for 1000*k < q.Rank*len(values) {
		k++
	}
	if at := sort.SearchInts(q.Bounds, values[k-1]); at < len(q.Bounds) {
		return api.Out{Value: q.Bounds[at]}
	}
	return api.Out{Value: values[len(values)-1]}
}

// wantedResults gives what Results is to answer.
func wantedResults(c api.Config, xs []api.Item, from int, to int) []api.Result {
	var out []api.Result
	for _, g := range groups(c, xs) {
		if g.span.End+c.Late <= to && g.span.End+c.Late > from {
			out = append(out, api.Result{Query: g.query, Series: g.series, Span: g.span, Out: value(c.Queries[g.query], g.items)})
		}
	}
	inRow(out)
	return out
}

// inRow sorts results as the chapter does.
func inRow(out []api.Result) {
	sort.Slice(out, func(i, j int) bool {
		a, b := out[i], out[j]
		return slices.Compare([]int{a.Span.End, a.Query, a.Series, a.Span.Start}, []int{b.Span.End, b.Query, b.Series, b.Span.Start}) < 0
	})
}

// wantedHeld gives what Held is to answer.
func wantedHeld(c api.Config, xs []api.Item, least int) []api.Item {
	var out []api.Item
	for _, g := range groups(c, xs) {
		for _, x := range g.items {
			if g.span.End+c.Late > least && !slices.Contains(out, x) {
				out = append(out, x)
			}
		}
	}
	sort.Slice(out, func(i, j int) bool {
		return out[i].Time < out[j].Time || out[i].Time == out[j].Time && out[i].Seq < out[j].Seq
	})
	return out
}

// same tells whether two answers are one; an empty list and nil are.
func same[T any](a []T, b []T) bool {
	return len(a) == 0 && len(b) == 0 || reflect.DeepEqual(a, b)
}

// wantResults holds what Results answers against want.
func wantResults(t *testing.T, c api.Config, xs []api.Item, from int, to int, want []api.Result) {
	t.Helper()
	if got, e := spec.Results(c, xs, from, to); !same(got, want) || e != api.OK {
		t.Fatalf("P21.1: Results(%v, %v, %d, %d): %v, error %d; want %v", c, xs, from, to, got, e, want)
	}
}

// wantHeld holds what Held answers against want.
func wantHeld(t *testing.T, c api.Config, xs []api.Item, least int, want []api.Item) {
	t.Helper()
	if got, e := spec.Held(c, xs, least); !same(got, want) || e != api.OK {
		t.Fatalf("P21.2: Held(%v, %v, %d): %v, error %d; want %v", c, xs, least, got, e, want)
	}
}

// of gives a config of these queries.
func of(late int, queries ...api.Query) api.Config {
	return api.Config{Queries: queries, Late: late, Room: 1, Series: 1, Sources: 1}
}

// at gives an item of series 3, of value 10 times its Seq.
func at(time int, seq int) api.Item {
	return api.Item{Series: 3, Time: time, Seq: seq, Value: 10 * seq}
}

// told gives a result of series 3.
func told(query int, start int, end int, value int) api.Result {
	return api.Result{Query: query, Series: 3, Span: api.Span{Start: start, End: end}, Out: api.Out{Value: value}}
}

func TestWindowsByHand(t *testing.T) {
	c := of(2, api.Query{Size: 10}, api.Query{Kind: api.KindSliding, Agg: api.AggSum, Size: 10, Slide: 5})
	xs := []api.Item{at(9, 3), at(-1, 2), at(0, 1), at(25, 4)}
	all := []api.Result{
		told(0, -10, 0, 1), told(1, -10, 0, 20), told(1, -5, 5, 30), told(0, 0, 10, 2), told(1, 0, 10, 40),
		told(1, 5, 15, 30), told(0, 20, 30, 1), told(1, 20, 30, 40), told(1, 25, 35, 40),
	}
	wantResults(t, c, xs, api.NoMark, api.MaxMark, all)
	wantResults(t, c, xs, -50, 37, all)
	wantResults(t, c, xs, -50, 36, all[:8])
	wantResults(t, c, xs, 1, 2, all[:2])
	wantResults(t, c, xs, 2, 11, all[2:3])
	wantResults(t, c, xs, 2, 12, all[2:5])
	wantResults(t, c, xs, 12, 12, nil)
	wantResults(t, c, xs, 12, 16, nil)
	wantResults(t, c, xs, 37, api.MaxMark, nil)
	wantResults(t, c, nil, api.NoMark, api.MaxMark, nil)
	row := []api.Item{at(-1, 2), at(0, 1), at(9, 3), at(25, 4)}
	for _, w := range []struct {
		least int
		want  []api.Item
	}{
		{api.NoMark, row}, {2, row}, {6, row}, {7, row[1:]}, {11, row[1:]}, {12, row[2:]}, {16, row[2:]}, {17, row[3:]}, {36, row[3:]}, {37, nil}, {api.MaxMark, nil},
	} {
		wantHeld(t, c, xs, w.least, w.want)
	}
	wantHeld(t, c, nil, 0, nil)
}

func TestSessionsByHand(t *testing.T) {
	c := of(1, api.Query{Kind: api.KindSession, Agg: api.AggLast, Size: 5})
	xs := []api.Item{at(14, 1), at(4, 2), at(0, 3), at(9, 4), at(19, 6), at(18, 5)}
	// From 4 to 9, and from 9 to 14, there are just 5: these are sessions of their own.
	wantResults(t, c, xs, api.NoMark, api.MaxMark, []api.Result{told(0, 0, 9, 20), told(0, 9, 14, 40), told(0, 14, 24, 60)})
	wantResults(t, c, xs, 9, 10, []api.Result{told(0, 0, 9, 20)})
	wantResults(t, c, xs, 10, 14, nil)
	wantResults(t, c, xs, 10, 15, []api.Result{told(0, 9, 14, 40)})
	wantResults(t, c, xs, 15, 24, nil)
	wantResults(t, c, xs, 15, 25, []api.Result{told(0, 14, 24, 60)})
	row := []api.Item{at(0, 3), at(4, 2), at(9, 4), at(14, 1), at(18, 5), at(19, 6)}
	wantHeld(t, c, xs, 9, row)
	wantHeld(t, c, xs, 10, row[2:])
	wantHeld(t, c, xs, 14, row[2:])
	wantHeld(t, c, xs, 15, row[3:])
	wantHeld(t, c, xs, 24, row[3:])
	wantHeld(t, c, xs, 25, nil)
}

// TestHeldTogether: what is in a session which is not out stays whole, and one query alone can hold an item.
func TestHeldTogether(t *testing.T) {
	c := of(0, api.Query{Size: 3}, api.Query{Kind: api.KindSession, Size: 6})
	xs := []api.Item{at(0, 1), at(5, 2), at(10, 3), at(16, 4), {Series: 4, Time: 2, Seq: 5}}
	wantHeld(t, c, xs, 8, []api.Item{at(0, 1), at(5, 2), at(10, 3), at(16, 4)})
	wantHeld(t, c, xs, 7, []api.Item{at(0, 1), {Series: 4, Time: 2, Seq: 5}, at(5, 2), at(10, 3), at(16, 4)})
	wantHeld(t, c, xs, 15, []api.Item{at(0, 1), at(5, 2), at(10, 3), at(16, 4)})
	wantHeld(t, c, xs, 16, []api.Item{at(16, 4)})
	wantHeld(t, c, xs, 22, nil)
}

// TestRow: by End, then Query, Series, Start, and items of one Time by Seq.
func TestRow(t *testing.T) {
	c := of(0, api.Query{Agg: api.AggFirst, Size: 4}, api.Query{Kind: api.KindSession, Agg: api.AggLast, Size: 2}, api.Query{Agg: api.AggLast, Size: 2})
	xs := []api.Item{
		{Series: 9, Time: 2, Seq: 7, Value: 1}, {Series: 2, Time: 2, Seq: 3, Value: 2}, {Series: 9, Time: 2, Seq: 5, Value: 3}, {Series: 2, Time: 2, Seq: 6, Value: 4},
	}
	result := func(query, series, start, value int) api.Result {
		return api.Result{Query: query, Series: series, Span: api.Span{Start: start, End: 4}, Out: api.Out{Value: value}}
	}
	want := []api.Result{result(0, 2, 0, 2), result(0, 9, 0, 3), result(1, 2, 2, 4), result(1, 9, 2, 1), result(2, 2, 2, 4), result(2, 9, 2, 1)}
	wantResults(t, c, xs, 0, 4, want)
	wantHeld(t, c, xs, 3, []api.Item{xs[1], xs[2], xs[3], xs[0]})
}

// TestByTheWords holds both against the chapter's words, for many configs, items in any row, and marks.
func TestByTheWords(t *testing.T) {
	s := numbers(21)
	for range 1500 {
		c, xs := s.config(), s.items(14, 25)
		for range 4 {
			from := s.next(90) - 45
			to := from + s.next(40)
			wantResults(t, c, xs, from, to, wantedResults(c, xs, from, to))
			wantResults(t, c, s.mixed(xs), from, to, wantedResults(c, xs, from, to))
			wantHeld(t, c, xs, to, wantedHeld(c, xs, to))
		}
		wantResults(t, c, xs, api.NoMark, api.MaxMark, wantedResults(c, xs, api.NoMark, api.MaxMark))
		wantHeld(t, c, xs, api.NoMark, wantedHeld(c, xs, api.NoMark))
	}
}

// TestOnce: of any marks between, each window goes out at just one, and what Held lets go is not missed behind it.
func TestOnce(t *testing.T) {
	s := numbers(4)
	for range 600 {
		c, xs := s.config(), s.items(20, 25)
		var got []api.Result
		left, mark := xs, api.NoMark
		for _, to := range []int{-40 + s.next(30), s.next(10), 10 + s.next(20), api.MaxMark} {
			out, e := spec.Results(c, left, mark, to)
			if e != api.OK {
				t.Fatalf("P21.1: Results: error %d", e)
			}
			got = append(got, out...)
			if left, e = spec.Held(c, left, to); e != api.OK {
				t.Fatalf("P21.2: Held: error %d", e)
			}
			mark = to
		}
		if want := wantedResults(c, xs, api.NoMark, api.MaxMark); !same(got, want) || len(left) != 0 {
			t.Fatalf("T4: %v, %v: %v; want %v; %v left", c, xs, got, want, left)
		}
	}
}

// TestEnds: times, sizes and a lateness at their limits.
func TestEnds(t *testing.T) {
	c := of(api.MaxLate, api.Query{Size: api.MaxSpan}, api.Query{Kind: api.KindSliding, Size: 64, Slide: 1}, api.Query{Kind: api.KindSession, Size: api.MaxSpan})
	for _, w := range []struct{ time, start int }{
		{-api.MaxTime, -api.MaxTime}, {-1, -api.MaxSpan}, {0, 0}, {api.MaxTime - 1, api.MaxTime - api.MaxSpan}, {api.MaxTime, api.MaxTime},
	} {
		result := func(query, start, end int) api.Result {
			return api.Result{Query: query, Series: api.MaxId, Span: api.Span{Start: start, End: end}, Out: api.Out{Value: 1}}
		}
		want := []api.Result{result(0, w.start, w.start+api.MaxSpan), result(2, w.time, w.time+api.MaxSpan)}
		for i := range 64 {
			want = append(want, result(1, w.time-i, w.time-i+64))
		}
		inRow(want)
		xs := []api.Item{{Series: api.MaxId, Time: w.time, Seq: api.MaxSeq, Value: api.MaxValue}}
		wantResults(t, c, xs, api.NoMark, api.MaxMark, want)
		end := w.time + api.MaxSpan + api.MaxLate
		wantResults(t, c, xs, api.NoMark, end, want)
		wantResults(t, c, xs, end-1, api.MaxMark, slices.DeleteFunc(want, func(r api.Result) bool { return r.Span.End+api.MaxLate < end }))
		wantHeld(t, c, xs, end-1, xs)
		wantHeld(t, c, xs, end, nil)
	}
}

// stretched gives c with all its lengths scale times as great.
func stretched(c api.Config, scale int) api.Config {
	c.Late *= scale
	c.Queries = slices.Clone(c.Queries)
	for i := range c.Queries {
		c.Queries[i].Size *= scale
		c.Queries[i].Slide *= scale
	}
	return c
}

// moved gives xs with each Time scale times as great, and by so much more.
func moved(xs []api.Item, scale int, by int) []api.Item {
	out := slices.Clone(xs)
	for i := range out {
		out[i].Time = out[i].Time*scale + by
	}
	return out
}

// TestFar: with all lengths and times so many times as great, and moved to where times end, the windows are the same ones, there.
func TestFar(t *testing.T) {
	// As wide as this, the greatest ones reach beyond what 32 bits hold.
	const span = 40
	// All steps up to 14 go into it, so windows moved by it are windows.
	const steps = 360360
	s := numbers(33)
	for range 400 {
		c, xs := s.config(), s.items(14, span)
		from := s.next(120) - 60
		to := from + s.next(60)
		results, held := wantedResults(c, xs, from, to), wantedHeld(c, xs, to)
		for _, scale := range []int{1, 1000, api.MaxSpan / 16} {
			far := (api.MaxTime - span*scale) / (steps * scale) * steps * scale
			for _, by := range []int{-far, far} {
				want := slices.Clone(results)
				for i, r := range want {
					want[i].Span = api.Span{Start: r.Span.Start*scale + by, End: r.Span.End*scale + by}
				}
				wantResults(t, stretched(c, scale), moved(xs, scale, by), from*scale+by, to*scale+by, want)
				wantHeld(t, stretched(c, scale), moved(xs, scale, by), to*scale+by, moved(held, scale, by))
			}
		}
	}
}

// TestOver: a sum beyond its limits is told as such.
func TestOver(t *testing.T) {
	c := of(0, api.Query{Agg: api.AggSum, Size: 10})
	var xs []api.Item
	for i := range 1025 {
		xs = append(xs, api.Item{Series: 3, Time: 5, Seq: 1 + i, Value: -api.MaxValue})
	}
	wantResults(t, c, xs[1:], 0, 10, []api.Result{told(0, 0, 10, -api.MaxSum)})
	wantResults(t, c, xs, 0, 10, []api.Result{{Series: 3, Span: api.Span{End: 10}, Out: api.Out{Over: true}}})
}

// badConfigs are some that may not be.
func badConfigs() []api.Config {
	good := api.Query{Size: 10}
	out := []api.Config{{}, of(-1, good), of(api.MaxLate+1, good), of(0), of(0, slices.Repeat([]api.Query{good}, api.MaxQueries+1)...), of(0, good, api.Query{})}
	for _, c := range []api.Config{{Room: 0, Series: 1, Sources: 1}, {Room: api.MaxRoom + 1, Series: 1, Sources: 1}, {Room: 1, Sources: 1}, {Room: 1, Series: api.MaxSeries + 1, Sources: 1}, {Room: 1, Series: 1}, {Room: 1, Series: 1, Sources: api.MaxSources + 1}} {
		c.Queries = []api.Query{good}
		out = append(out, c)
	}
	return out
}

// badItems are lists of items that may not be.
func badItems() [][]api.Item {
	var many []api.Item
	for i := range api.MaxItems + 1 {
		many = append(many, at(i, 1+i))
	}
	return [][]api.Item{
		many, slices.Repeat([]api.Item{at(0, 1)}, 100000),
		{{}}, {at(0, 1), at(0, 0)}, {at(0, api.MaxSeq+1)}, {at(api.MaxTime+1, 1)}, {at(-api.MaxTime-1, 1)}, {at(0, math.MinInt)},
		{{Series: -1, Seq: 1}}, {at(0, 2), {Series: api.MaxId + 1, Seq: 1}}, {{Seq: 1, Value: api.MaxValue + 1}}, {{Seq: 1, Value: -api.MaxValue - 1}},
		{at(0, 1), at(0, 1)}, {at(0, 1), at(5, 2), at(9, 1)}, {at(0, 4), {Series: 7, Time: 1, Seq: 4}},
	}
}

// wantForm holds both to refuse.
func wantForm(t *testing.T, c api.Config, xs []api.Item, from int, to int) {
	t.Helper()
	if got, e := spec.Results(c, xs, from, to); got != nil || e != api.ErrSpecForm {
		t.Errorf("P21.1: Results(%v, %d items, %d, %d): %v, error %d; want %d", c, len(xs), from, to, got, e, api.ErrSpecForm)
	}
	if got, e := spec.Held(c, xs, to); got != nil || e != api.ErrSpecForm {
		t.Errorf("P21.2: Held(%v, %d items, %d): %v, error %d; want %d", c, len(xs), to, got, e, api.ErrSpecForm)
	}
}

func TestForms(t *testing.T) {
	c := of(0, api.Query{Size: 10})
	for _, bad := range badConfigs() {
		wantForm(t, bad, nil, 0, 10)
		wantForm(t, bad, []api.Item{at(0, 1)}, 0, 10)
	}
	for _, bad := range badItems() {
		wantForm(t, c, bad, 0, 10)
	}
	xs := []api.Item{at(0, 1)}
	for _, mark := range []int{api.NoMark - 1, api.MaxMark + 1, math.MinInt, math.MaxInt} {
		wantForm(t, c, xs, mark, mark)
	}
	for _, m := range [][2]int{{api.NoMark - 1, 5}, {5, api.MaxMark + 1}, {6, 5}, {api.MaxMark, api.NoMark}, {math.MinInt, math.MaxInt}, {math.MaxInt, 5}} {
		if got, e := spec.Results(c, xs, m[0], m[1]); got != nil || e != api.ErrSpecForm {
			t.Errorf("P21.1: Results from %d to %d: %v, error %d; want %d", m[0], m[1], got, e, api.ErrSpecForm)
		}
	}
	wantResults(t, c, xs, api.NoMark, api.NoMark, nil)
	wantResults(t, c, xs, api.MaxMark, api.MaxMark, nil)
	wantHeld(t, c, xs, api.NoMark, xs)
}

// TestMost: as many items as may be, in as many windows as may hold each.
func TestMost(t *testing.T) {
	q := api.Query{Kind: api.KindSliding, Agg: api.AggHist, Size: 64, Slide: 1, Bounds: []int{1, 2, 3, 4, 5, 6, 7, 8}}
	c := of(0, slices.Repeat([]api.Query{q}, api.MaxQueries)...)
	var xs []api.Item
	for i := range api.MaxItems {
		xs = append(xs, api.Item{Series: i % 2, Time: i, Seq: 1 + i, Value: i % 10})
	}
	got, e := spec.Results(c, xs, api.NoMark, api.MaxMark)
	if want := 8 * 2 * (8191 + 63); len(got) != want || e != api.OK {
		t.Fatalf("P21.1: %d results, error %d; want %d", len(got), e, want)
	}
	if held, e := spec.Held(c, xs, 0); len(held) != api.MaxItems || e != api.OK {
		t.Fatalf("P21.2: %d items, error %d", len(held), e)
	}
	for i := range xs {
		xs[i].Time = 0
	}
	if got, e := spec.Results(c, xs, api.NoMark, api.MaxMark); len(got) != 8*2*64 || e != api.OK {
		t.Fatalf("P21.1: %d results, error %d", len(got), e)
	}
}

// TestManyWindows: as many windows as one query may have, each of an item alone, of one series or of one an item.
func TestManyWindows(t *testing.T) {
	c := of(0, api.Query{Kind: api.KindSliding, Agg: api.AggLast, Size: 64 * 1000, Slide: 1000})
	for _, apart := range []api.Item{{Time: 100000}, {Series: 1}} {
		var xs []api.Item
		for i := range api.MaxItems {
			xs = append(xs, api.Item{Series: apart.Series * i, Time: apart.Time * i, Seq: 1 + i, Value: i})
		}
		got, e := spec.Results(c, xs, api.NoMark, api.MaxMark)
		if len(got) != 64*api.MaxItems || e != api.OK {
			t.Fatalf("P21.1: %d results, error %d; want %d", len(got), e, 64*api.MaxItems)
		}
		if !sort.SliceIsSorted(got, func(i, j int) bool {
			a, b := got[i], got[j]
			return a.Span.End < b.Span.End || a.Span.End == b.Span.End && a.Series < b.Series
		}) {
			t.Fatal("P21.1: not by End, then Series")
		}
		var many [api.MaxItems]int
		for _, r := range got {
			x := xs[r.Out.Value]
			if r.Series != x.Series || r.Span.Start > x.Time || r.Span.End <= x.Time || r.Span.Start%1000 != 0 || r.Span.End-r.Span.Start != 64000 {
				t.Fatalf("P21.1: %v holds not %v", r, x)
			}
			many[x.Seq-1]++
		}
		for i, n := range many {
			if n != 64 {
				t.Fatalf("P21.1: item %d goes out %d times", i, n)
			}
		}
	}
}

// TestShared: nothing that is handed in is changed, and nothing that is answered is shared.
func TestShared(t *testing.T) {
	c := of(0, api.Query{Agg: api.AggHist, Size: 10, Bounds: []int{0, 5}}, api.Query{Kind: api.KindSliding, Agg: api.AggHist, Size: 10, Slide: 5, Bounds: []int{0, 5}})
	spare := []api.Item{at(7, 3), at(2, 1), at(4, 2), at(9, 9)}
	xs := spare[:3]
	was := slices.Clone(spare)
	got, _ := spec.Results(c, xs, 0, 20)
	held, _ := spec.Held(c, xs, 0)
	if !slices.Equal(spare, was) || !slices.Equal(c.Queries[0].Bounds, []int{0, 5}) {
		t.Fatalf("R4: handed in: %v, %v", spare, c)
	}
	want, _ := spec.Results(c, xs, 0, 20)
	for i := range got {
		got[i].Out.Hist = append(got[i].Out.Hist[:0], 99, 99, 99)
		for j := i + 1; j < len(got); j++ {
			if !reflect.DeepEqual(got[j], want[j]) {
				t.Fatalf("R4: result %d shares its Hist with %d", j, i)
			}
		}
	}
	for i := range held {
		held[i] = api.Item{}
	}
	if !slices.Equal(spare, was) || !slices.Equal(c.Queries[0].Bounds, []int{0, 5}) || !slices.Equal(c.Queries[1].Bounds, []int{0, 5}) {
		t.Fatalf("R4: shared: %v, %v", spare, c)
	}
	wantResults(t, c, xs, 0, 20, want)
}

// TestAtOneTime: both may be called from several goroutines.
func TestAtOneTime(t *testing.T) {
	s := numbers(9)
	c, xs := s.config(), s.items(14, 25)
	want, held := wantedResults(c, xs, -10, 30), wantedHeld(c, xs, 0)
	var all sync.WaitGroup
	for range 8 {
		all.Go(func() {
			for range 50 {
				got, _ := spec.Results(c, xs, -10, 30)
				left, _ := spec.Held(c, xs, 0)
				if !same(got, want) || !same(left, held) {
					t.Errorf("R5: %v, %v; want %v, %v", got, left, want, held)
					return
				}
			}
		})
	}
	all.Wait()
}
