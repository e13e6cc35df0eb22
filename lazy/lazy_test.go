package lazy_test

import (
	"math"
	"reflect"
	"slices"
	"testing"

	"bourne/api"
	"bourne/inorder"
	"bourne/lazy"
	"bourne/spec"
)

// numbers is a row of numbers that looks like none.
type numbers uint32

// next gives one from 0 to below n.
func (s *numbers) next(n int) int {
	*s = *s*1664525 + 1013904223
	return int(*s>>8) % n
}

// query gives one that may be, with a size of at most so much.
func (s *numbers) query(size int) api.Query {
	q := api.Query{Kind: s.next(3), Agg: s.next(8), Size: 1 + s.next(size)}
	if q.Kind == api.KindSliding {
		q.Slide = 1 + s.next(q.Size)
	}
	if q.Agg == api.AggHist || q.Agg == api.AggRank {
		q.Bounds = [][]int{{0}, {-3, 3}, {-4, -1, 0, 2}}[s.next(3)]
	}
	if q.Agg == api.AggRank {
		q.Rank = s.next(api.MaxRank + 1)
	}
	return q
}

// config gives one that may be, of small queries.
func (s *numbers) config() api.Config {
	c := of(s.next(10))
	for range 1 + s.next(4) {
		c.Queries = append(c.Queries, s.query(16))
	}
	return c
}

// of gives a config of these queries.
func of(late int, queries ...api.Query) api.Config {
	return api.Config{Queries: queries, Late: late, Room: 1, Series: 1, Sources: 1}
}

// at gives an item of series 3, of value 10 times its Seq.
func at(time int, seq int) api.Item {
	return api.Item{Series: 3, Time: time, Seq: seq, Value: 10 * seq}
}

// told gives a result of series 3.
func told(query int, start int, end int, value int) api.Result {
	return api.Result{Query: query, Series: 3, Span: api.Span{Start: start, End: end}, Out: api.Out{Value: value}}
}

// same tells whether two answers are one; an empty list and nil are.
func same[T any](a []T, b []T) bool {
	return len(a) == 0 && len(b) == 0 || reflect.DeepEqual(a, b)
}

// made gives an engine.
func made(t *testing.T, c api.Config) *lazy.Engine {
	t.Helper()
	e, f := lazy.New(c)
	if f != api.OK || e == nil {
		t.Fatalf("P20.1: New(%v): error %d", c, f)
	}
	wantHeld(t, e)
	return e
}

// wantFeed holds what Feed answers against want.
func wantFeed(t *testing.T, e *lazy.Engine, want api.Errno, xs ...api.Item) {
	t.Helper()
	if f := e.Feed(xs...); f != want {
		t.Fatalf("P20.1: Feed(%v): error %d; want %d", xs, f, want)
	}
}

// wantMark holds what Mark answers against want.
func wantMark(t *testing.T, e *lazy.Engine, least int, want ...api.Result) {
	t.Helper()
	if got, f := e.Mark(least); !same(got, want) || f != api.OK {
		t.Fatalf("P20.2: Mark(%d): %v, error %d; want %v", least, got, f, want)
	}
}

// wantNoMark holds Mark to refuse.
func wantNoMark(t *testing.T, e *lazy.Engine, leasts ...int) {
	t.Helper()
	for _, least := range leasts {
		if got, f := e.Mark(least); got != nil || f != api.ErrLazyForm {
			t.Fatalf("P20.2: Mark(%d): %v, error %d; want %d", least, got, f, api.ErrLazyForm)
		}
	}
}

// wantHeld holds what Held answers against want.
func wantHeld(t *testing.T, e *lazy.Engine, want ...api.Item) {
	t.Helper()
	if got := e.Held(); !same(got, want) {
		t.Fatalf("P20.2: Held: %v; want %v", got, want)
	}
}

func TestWindowsByHand(t *testing.T) {
	e := made(t, of(2, api.Query{Size: 10}, api.Query{Kind: api.KindSliding, Agg: api.AggSum, Size: 10, Slide: 5}))
	a, b, c, d := at(9, 1), at(-1, 2), at(0, 3), at(25, 4)
	wantFeed(t, e, api.OK, a, b)
	wantMark(t, e, 1)
	wantHeld(t, e, b, a)
	wantMark(t, e, 2, told(0, -10, 0, 1), told(1, -10, 0, 20))
	wantHeld(t, e, b, a)
	wantFeed(t, e, api.OK, c, d)
	wantHeld(t, e, b, c, a, d)
	wantMark(t, e, 6)
	wantMark(t, e, 7, told(1, -5, 5, 50))
	wantHeld(t, e, c, a, d)
	wantMark(t, e, 11)
	wantMark(t, e, 20, told(0, 0, 10, 2), told(1, 0, 10, 40), told(1, 5, 15, 10))
	wantHeld(t, e, d)
	wantMark(t, e, 36, told(0, 20, 30, 1), told(1, 20, 30, 40))
	wantHeld(t, e, d)
	wantMark(t, e, 37, told(1, 25, 35, 40))
	wantHeld(t, e)
	wantMark(t, e, api.MaxMark)
}

func TestSessionsByHand(t *testing.T) {
	e := made(t, of(1, api.Query{Kind: api.KindSession, Agg: api.AggLast, Size: 5}))
	wantFeed(t, e, api.OK, at(14, 1), at(4, 2), at(0, 3))
	wantMark(t, e, 9)
	wantHeld(t, e, at(0, 3), at(4, 2), at(14, 1))
	// What comes now is 5 behind 4, so that the session there ends without it.
	wantFeed(t, e, api.OK, at(9, 4))
	wantMark(t, e, 10, told(0, 0, 9, 20))
	wantHeld(t, e, at(9, 4), at(14, 1))
	wantMark(t, e, 14)
	wantFeed(t, e, api.OK, at(13, 5))
	wantMark(t, e, 18)
	wantFeed(t, e, api.OK, at(18, 6), at(19, 7))
	wantMark(t, e, 23)
	wantHeld(t, e, at(9, 4), at(13, 5), at(14, 1), at(18, 6), at(19, 7))
	wantMark(t, e, 24)
	wantMark(t, e, 25, told(0, 9, 24, 70))
	wantHeld(t, e)
}

// TestRow: by End, then Query, Series, Start, and items of one Time by Seq.
func TestRow(t *testing.T) {
	e := made(t, of(0, api.Query{Agg: api.AggFirst, Size: 4}, api.Query{Kind: api.KindSession, Agg: api.AggLast, Size: 2}, api.Query{Agg: api.AggLast, Size: 2}))
	xs := []api.Item{
		{Series: 2, Time: 2, Seq: 3, Value: 2}, {Series: 9, Time: 2, Seq: 5, Value: 3}, {Series: 2, Time: 2, Seq: 6, Value: 4}, {Series: 9, Time: 2, Seq: 7, Value: 1},
	}
	result := func(query, series, start, value int) api.Result {
		return api.Result{Query: query, Series: series, Span: api.Span{Start: start, End: 4}, Out: api.Out{Value: value}}
	}
	wantFeed(t, e, api.OK, xs...)
	wantMark(t, e, 3)
	wantHeld(t, e, xs...)
	wantMark(t, e, 4, result(0, 2, 0, 2), result(0, 9, 0, 3), result(1, 2, 2, 4), result(1, 9, 2, 1), result(2, 2, 2, 4), result(2, 9, 2, 1))
	wantHeld(t, e)
}

// TestFarApart: windows of no items are not told, nor gone through.
func TestFarApart(t *testing.T) {
	e := made(t, of(0, api.Query{Kind: api.KindSliding, Size: 2, Slide: 1}))
	wantFeed(t, e, api.OK, at(-api.MaxTime, 1), at(api.MaxTime, 2), at(0, 3))
	wantMark(t, e, 1, told(0, -api.MaxTime-1, -api.MaxTime+1, 1), told(0, -api.MaxTime, -api.MaxTime+2, 1), told(0, -1, 1, 1))
	wantHeld(t, e, at(0, 3), at(api.MaxTime, 2))
	wantMark(t, e, api.MaxMark, told(0, 0, 2, 1), told(0, api.MaxTime-1, api.MaxTime+1, 1), told(0, api.MaxTime, api.MaxTime+2, 1))
	wantHeld(t, e)
}

// TestEnds: times, sizes and a lateness at their limits.
func TestEnds(t *testing.T) {
	c := of(api.MaxLate, api.Query{Size: api.MaxSpan}, api.Query{Kind: api.KindSliding, Size: 64, Slide: 1}, api.Query{Kind: api.KindSession, Size: api.MaxSpan})
	for _, time := range []int{-api.MaxTime, -1, 0, api.MaxTime - 1, api.MaxTime} {
		x := api.Item{Series: api.MaxId, Time: time, Seq: api.MaxSeq, Value: -api.MaxValue}
		all, _ := spec.Results(c, []api.Item{x}, api.NoMark, api.MaxMark)
		e := made(t, c)
		wantMark(t, e, time+api.MaxLate)
		wantFeed(t, e, api.OK, x)
		end := all[65].Span.End + api.MaxLate
		due := slices.IndexFunc(all, func(r api.Result) bool { return r.Span.End+api.MaxLate == end })
		wantMark(t, e, end-1, all[:due]...)
		wantHeld(t, e, x)
		wantMark(t, e, end, all[due:]...)
		wantHeld(t, e)
	}
}

// TestOver: a sum beyond its limits is told as such.
func TestOver(t *testing.T) {
	e := made(t, of(0, api.Query{Agg: api.AggSum, Size: 10}))
	for i := range 1024 {
		wantFeed(t, e, api.OK, api.Item{Series: 3, Time: 5, Seq: 1 + i, Value: api.MaxValue})
	}
	for i := range 1025 {
		wantFeed(t, e, api.OK, api.Item{Series: 3, Time: 15, Seq: 2000 + i, Value: api.MaxValue})
	}
	wantMark(t, e, 20, told(0, 0, 10, api.MaxSum), api.Result{Series: 3, Span: api.Span{Start: 10, End: 20}, Out: api.Out{Over: true}})
}

// badConfigs are some that may not be.
func badConfigs() []api.Config {
	good := api.Query{Size: 10}
	out := []api.Config{{}, of(-1, good), of(api.MaxLate+1, good), of(0), of(0, slices.Repeat([]api.Query{good}, api.MaxQueries+1)...), of(0, good, api.Query{})}
	for _, c := range []api.Config{{Room: 0, Series: 1, Sources: 1}, {Room: api.MaxRoom + 1, Series: 1, Sources: 1}, {Room: 1, Sources: 1}, {Room: 1, Series: api.MaxSeries + 1, Sources: 1}, {Room: 1, Series: 1}, {Room: 1, Series: 1, Sources: api.MaxSources + 1}} {
		c.Queries = []api.Query{good}
		out = append(out, c)
	}
	return out
}

// badItems are some that may not be, each of a Seq that might be, but for that of which the Seq may not.
func badItems() []api.Item {
	return []api.Item{
		{}, at(0, 0), at(0, -1), at(0, api.MaxSeq+1), at(0, math.MaxInt), at(0, math.MinInt),
		at(api.MaxTime+1, 9), at(-api.MaxTime-1, 9), at(math.MinInt, 9), at(math.MaxInt, 9),
		{Series: -1, Seq: 9}, {Series: api.MaxId + 1, Seq: 9}, {Seq: 9, Value: api.MaxValue + 1}, {Seq: 9, Value: -api.MaxValue - 1},
	}
}

func TestNew(t *testing.T) {
	for _, c := range badConfigs() {
		if e, f := lazy.New(c); e != nil || f != api.ErrLazyForm {
			t.Errorf("P20.1: New(%v): %v, error %d; want none, error %d", c, e, f, api.ErrLazyForm)
		}
	}
	// Nothing is below the mark of a new engine, and it may stay there.
	e := made(t, of(api.MaxLate, slices.Repeat([]api.Query{{Size: 1}}, api.MaxQueries)...))
	wantMark(t, e, api.NoMark)
	wantFeed(t, e, api.OK)
	wantFeed(t, e, api.OK, at(-api.MaxTime, 1))
	wantHeld(t, e, at(-api.MaxTime, 1))
}

func TestFeedForms(t *testing.T) {
	e := made(t, of(0, api.Query{Size: 10}))
	a, b := at(7, 4), at(3, 6)
	wantFeed(t, e, api.OK, a, b)
	for _, bad := range badItems() {
		wantFeed(t, e, api.ErrLazyForm, bad)
		wantFeed(t, e, api.ErrLazyForm, at(1, 8), bad)
		wantFeed(t, e, api.ErrLazyForm, bad, at(1, 10))
	}
	for _, xs := range [][]api.Item{
		{at(0, 6)}, {at(0, 5)}, {at(0, 4)}, {at(0, 1)}, {a}, {b},
		{at(0, 8), at(0, 8)}, {at(0, 9), at(0, 8)}, {at(0, 8), at(0, 7), at(0, 9)}, {at(0, 8), {Series: 9, Seq: 8}},
	} {
		wantFeed(t, e, api.ErrLazyForm, xs...)
		wantHeld(t, e, b, a)
	}
	// Of what was refused nothing came, so the Seqs are as they were.
	wantFeed(t, e, api.OK, at(5, 7))
	wantHeld(t, e, b, at(5, 7), a)
	wantMark(t, e, 10, told(0, 0, 10, 3))
	wantHeld(t, e)
	// Those that have gone out came all the same.
	wantFeed(t, e, api.ErrLazyForm, at(20, 7))
	wantFeed(t, e, api.OK, at(20, 8))
	wantFeed(t, e, api.OK, at(20, api.MaxSeq))
	wantFeed(t, e, api.ErrLazyForm, at(20, api.MaxSeq))
	wantFeed(t, e, api.OK)
}

func TestLate(t *testing.T) {
	for _, late := range []int{0, 1, 5, api.MaxLate} {
		e := made(t, of(late, api.Query{Size: 10}))
		wantFeed(t, e, api.OK, at(-api.MaxTime, 1))
		mark := 100
		line := mark - late
		wantMark(t, e, mark, told(0, -api.MaxTime-4, -api.MaxTime+6, 1))
		for _, time := range []int{line - 1, line - 100, -api.MaxTime} {
			wantFeed(t, e, api.ErrLazyLate, at(time, 2))
			wantFeed(t, e, api.ErrLazyLate, at(line, 2), at(time, 3))
			wantFeed(t, e, api.ErrLazyLate, at(time, 2), at(line, 3))
			// What may not be tells ahead of what is late.
			wantFeed(t, e, api.ErrLazyForm, at(time, 2), at(line, 2))
			wantFeed(t, e, api.ErrLazyForm, at(time, 1))
			wantHeld(t, e)
		}
		wantNoMark(t, e, mark-1)
		wantFeed(t, e, api.OK, at(line, 2))
		wantHeld(t, e, at(line, 2))
	}
	// Of a mark so low that the line would be below NoMark, no time is late.
	e := made(t, of(api.MaxLate, api.Query{Size: 10}))
	wantMark(t, e, api.NoMark+5)
	wantFeed(t, e, api.OK, at(-api.MaxTime, 1))
}

func TestMost(t *testing.T) {
	e := made(t, of(0, api.Query{Size: 10}))
	var xs []api.Item
	for i := range api.MaxItems {
		xs = append(xs, at(i/4096*20, 1+i))
	}
	wantFeed(t, e, api.ErrLazyForm, append(slices.Clone(xs), at(0, 9000))...)
	wantHeld(t, e)
	wantFeed(t, e, api.OK, xs...)
	wantFeed(t, e, api.ErrLazyForm, at(5, 9000))
	wantFeed(t, e, api.OK)
	wantHeld(t, e, xs...)
	wantMark(t, e, 5)
	wantFeed(t, e, api.ErrLazyForm, at(5, 9000))
	wantMark(t, e, 25, told(0, 0, 10, 4096))
	wantHeld(t, e, xs[4096:]...)
	for i := range 4096 {
		xs = append(xs, at(25, 9000+i))
	}
	wantFeed(t, e, api.ErrLazyForm, append(slices.Clone(xs[8192:]), at(25, 20000))...)
	wantFeed(t, e, api.OK, xs[8192:]...)
	wantFeed(t, e, api.ErrLazyForm, at(25, 20000))
	wantHeld(t, e, xs[4096:]...)
	wantMark(t, e, 30, told(0, 20, 30, 8192))
	wantFeed(t, e, api.OK, at(30, 20000))
	wantFeed(t, e, api.ErrLazyForm, slices.Repeat([]api.Item{at(30, 20001)}, 1<<20)...)
	wantHeld(t, e, at(30, 20000))
}

func TestMarks(t *testing.T) {
	e := made(t, of(3, api.Query{Size: 10}))
	wantFeed(t, e, api.OK, at(2, 1))
	wantNoMark(t, e, api.NoMark-1, math.MinInt, api.MaxMark+1, math.MaxInt)
	wantMark(t, e, api.NoMark)
	wantMark(t, e, 5)
	wantMark(t, e, 5)
	wantNoMark(t, e, 4, api.NoMark, math.MinInt, api.MaxMark+1, math.MaxInt)
	wantHeld(t, e, at(2, 1))
	wantMark(t, e, 12)
	wantMark(t, e, 13, told(0, 0, 10, 1))
	wantMark(t, e, 13)
	wantFeed(t, e, api.OK, at(10, 2))
	wantMark(t, e, 13)
	wantMark(t, e, api.MaxMark, told(0, 10, 20, 1))
	wantNoMark(t, e, api.MaxMark+1, api.MaxMark-1)
	wantFeed(t, e, api.ErrLazyLate, at(api.MaxTime, 3))
	wantMark(t, e, api.MaxMark)
	wantHeld(t, e)
}

// model is what the chapter's words make of an engine.
type model struct {
	config api.Config
	all    []api.Item
	held   []api.Item
	mark   int
	seq    int
}

// feed tells what Feed is to answer, and takes xs in.
func (m *model) feed(xs []api.Item) api.Errno {
	seq := m.seq
	for _, x := range xs {
		_, e := spec.Results(m.config, []api.Item{x}, 0, 0)
		if e != api.OK || x.Seq <= seq {
			return api.ErrLazyForm
		}
		seq = x.Seq
	}
	if len(m.held)+len(xs) > api.MaxItems {
		return api.ErrLazyForm
	}
	for _, x := range xs {
		if x.Time < m.mark-m.config.Late {
			return api.ErrLazyLate
		}
	}
	m.all, m.held, m.seq = append(m.all, xs...), append(m.held, xs...), seq
	return api.OK
}

// advance gives what Mark is to answer, and lets go what is held no more.
func (m *model) advance(t *testing.T, least int) []api.Result {
	t.Helper()
	want, e := spec.Results(m.config, m.held, m.mark, least)
	// What was let go has no say any more.
	whole, f := spec.Results(m.config, m.all, m.mark, least)
	held, g := spec.Held(m.config, m.held, least)
	if !same(want, whole) || e != api.OK || f != api.OK || g != api.OK {
		t.Fatalf("P21.1: of what is held %v, error %d; of all %v, error %d; error %d", want, e, whole, f, g)
	}
	m.held, m.mark = held, least
	return want
}

// wantSame holds an engine against a model, to the end of all windows.
func wantSame(t *testing.T, e *lazy.Engine, m *model) {
	t.Helper()
	held, _ := spec.Held(m.config, m.held, m.mark)
	wantHeld(t, e, held...)
	wantMark(t, e, api.MaxMark, m.advance(t, api.MaxMark)...)
	wantHeld(t, e)
}

// someItems gives a few, most of them such as may come now.
func (s *numbers) someItems(m *model) []api.Item {
	low := max(m.mark-m.config.Late, -50)
	seq := m.seq
	var out []api.Item
	for range s.next(6) {
		seq += 1 + s.next(3)
		out = append(out, api.Item{Series: 5 * s.next(3), Time: low + s.next(1+s.next(60)), Seq: seq, Value: s.next(13) - 6})
	}
	if len(out) > 0 && s.next(8) == 0 {
		x := &out[s.next(len(out))]
		switch s.next(4) {
		case 0:
			x.Time = low - 1 - s.next(5)
		case 1:
			x.Seq = s.next(seq)
		case 2:
			x.Value = api.MaxValue + 1
		case 3:
			x.Series = -1
		}
	}
	return out
}

// TestAgainstSpec holds it against layer 21, for many configs, over many calls of which some are refused.
func TestAgainstSpec(t *testing.T) {
	s := numbers(18)
	for range 1200 {
		m := &model{config: s.config(), mark: api.NoMark}
		e := made(t, m.config)
		for range 30 {
			if s.next(3) > 0 {
				xs := s.someItems(m)
				wantFeed(t, e, m.feed(xs), xs...)
				continue
			}
			if m.mark > api.NoMark && s.next(6) == 0 {
				wantNoMark(t, e, m.mark-1-s.next(9))
			}
			least := max(m.mark, -60) + s.next(1+s.next(40))
			wantMark(t, e, least, m.advance(t, least)...)
			wantHeld(t, e, m.held...)
		}
		wantSame(t, e, m)
	}
}

// TestEachRow holds it against layer 21 for each row of a few calls: items of few times, and marks.
func TestEachRow(t *testing.T) {
	const calls, times, length = 7, 4, 5
	configs := []api.Config{
		of(0, api.Query{Size: 2}, api.Query{Kind: api.KindSession, Agg: api.AggLast, Size: 2}),
		of(1, api.Query{Kind: api.KindSliding, Agg: api.AggSum, Size: 3, Slide: 2}, api.Query{Kind: api.KindSession, Agg: api.AggFirst, Size: 1}),
		of(2, api.Query{Kind: api.KindSession, Agg: api.AggSum, Size: 3}, api.Query{Agg: api.AggMax, Size: 1}),
	}
	rows := 1
	for range length {
		rows *= calls
	}
	for _, c := range configs {
		for row := range rows {
			m := &model{config: c, mark: api.NoMark}
			e := made(t, c)
			for left := row; left > 0; left /= calls {
				if call := left % calls; call < times {
					x := at(call-1, m.seq+1)
					wantFeed(t, e, m.feed([]api.Item{x}), x)
				} else {
					least := max(m.mark, -1) + call - times
					wantMark(t, e, least, m.advance(t, least)...)
				}
			}
			wantSame(t, e, m)
		}
	}
}

// TestSessionsGrow: of a session something is known when a mark comes by it; an item that joins it, ahead of it or behind it, changes that.
func TestSessionsGrow(t *testing.T) {
	q := api.Query{Kind: api.KindSession, Agg: api.AggSum, Size: 10}
	e := made(t, of(8, q))
	wantFeed(t, e, api.OK, at(30, 1), at(20, 2), at(25, 3))
	// The line is 31: the session reaches behind it, from 20 to 40.
	wantMark(t, e, 39)
	wantHeld(t, e, at(20, 2), at(25, 3), at(30, 1))
	wantFeed(t, e, api.OK, at(39, 4))
	wantMark(t, e, 48)
	wantFeed(t, e, api.OK, at(49, 5), at(60, 6))
	wantMark(t, e, 56)
	wantMark(t, e, 57, told(0, 20, 49, 100))
	wantHeld(t, e, at(49, 5), at(60, 6))
	// One between both makes them one, one ahead of both, too.
	wantFeed(t, e, api.OK, at(55, 7))
	wantFeed(t, e, api.OK, at(49, 8))
	wantMark(t, e, 77)
	wantMark(t, e, 78, told(0, 49, 70, 260))
	wantHeld(t, e)
	wantFeed(t, e, api.OK, at(90, 9))
	wantFeed(t, e, api.OK, at(81, 10))
	wantFeed(t, e, api.OK, at(71, 11))
	wantMark(t, e, 89, told(0, 71, 81, 110))
	wantMark(t, e, 107)
	wantMark(t, e, 108, told(0, 81, 100, 190))
	wantHeld(t, e)
}

// TestBounds: queries of unlike Bounds, and of like ones, ask of the same items.
func TestBounds(t *testing.T) {
	hist := func(size int, bounds ...int) api.Query {
		return api.Query{Agg: api.AggHist, Size: size, Bounds: bounds}
	}
	e := made(t, of(0, hist(10, 15), hist(20, 15, 25), hist(40, 15), api.Query{Agg: api.AggLast, Size: 5}))
	told := func(query int, start int, end int, value int, hist ...int) api.Result {
		return api.Result{Query: query, Series: 3, Span: api.Span{Start: start, End: end}, Out: api.Out{Value: value, Hist: hist}}
	}
	wantFeed(t, e, api.OK, at(12, 1), at(3, 2))
	wantFeed(t, e, api.OK, at(7, 3))
	wantMark(t, e, 10, told(3, 0, 5, 20), told(0, 0, 10, 0, 0, 2), told(3, 5, 10, 30))
	wantHeld(t, e, at(3, 2), at(7, 3), at(12, 1))
	wantMark(t, e, 20, told(3, 10, 15, 10), told(0, 10, 20, 0, 1, 0), told(1, 0, 20, 0, 1, 1, 1))
	wantHeld(t, e, at(3, 2), at(7, 3), at(12, 1))
	wantMark(t, e, 39)
	wantMark(t, e, 40, told(2, 0, 40, 0, 1, 2))
	wantHeld(t, e)
}

// TestGaps: windows of the same items go out one by one, and where no item is none does.
func TestGaps(t *testing.T) {
	q := api.Query{Kind: api.KindSliding, Agg: api.AggSum, Size: 4, Slide: 2}
	e := made(t, of(0, q))
	wantFeed(t, e, api.OK, at(9, 1), at(2, 2), at(3, 3), at(30, 4))
	wantMark(t, e, 6, told(0, 0, 4, 50), told(0, 2, 6, 50))
	wantHeld(t, e, at(9, 1), at(30, 4))
	wantMark(t, e, 9)
	wantFeed(t, e, api.OK, at(11, 5))
	wantMark(t, e, 10, told(0, 6, 10, 10))
	wantFeed(t, e, api.OK, at(10, 6))
	wantMark(t, e, 20, told(0, 8, 12, 120), told(0, 10, 14, 110))
	wantHeld(t, e, at(30, 4))
	wantFeed(t, e, api.OK, at(20, 7))
	wantMark(t, e, api.MaxMark, told(0, 18, 22, 70), told(0, 20, 24, 70), told(0, 28, 32, 40), told(0, 30, 34, 40))
	wantHeld(t, e)
}

// TestAnyRow: items between two marks may come in any row, so that their Seqs stand by the times as they may; of unlike times what is told is the same.
func TestAnyRow(t *testing.T) {
	c := of(2, api.Query{Agg: api.AggFirst, Size: 4}, api.Query{Kind: api.KindSession, Agg: api.AggLast, Size: 3}, api.Query{Kind: api.KindSliding, Agg: api.AggHist, Size: 5, Slide: 2, Bounds: []int{2, 4}})
	times := []int{-4, -1, 0, 2, 7, 9}
	var whole [][]api.Result
	for row := range rowsOf(times) {
		e := made(t, c)
		for i, time := range row {
			wantFeed(t, e, api.OK, api.Item{Time: time, Seq: 1 + i, Value: time})
		}
		var told []api.Result
		for _, least := range []int{-2, 0, 1, 3, 4, 8, api.MaxMark} {
			out, f := e.Mark(least)
			if f != api.OK {
				t.Fatalf("P20.2: error %d", f)
			}
			told = append(told, out...)
		}
		wantHeld(t, e)
		whole = append(whole, told)
		if !same(told, whole[0]) {
			t.Fatalf("T2: %v: %v; want %v", row, told, whole[0])
		}
	}
	if len(whole) != 720 || len(whole[0]) == 0 {
		t.Errorf("T2: %d rows of %d windows", len(whole), len(whole[0]))
	}
}

// rowsOf gives all rows of some numbers.
func rowsOf(ns []int) func(yield func([]int) bool) {
	return func(yield func([]int) bool) {
		if len(ns) == 0 {
			yield(nil)
			return
		}
		for i, n := range ns {
			for rest := range rowsOf(slices.Delete(slices.Clone(ns), i, i+1)) {
				if !yield(append([]int{n}, rest...)) {
					return
				}
			}
		}
	}
}

// TestTwoEngines holds it against the other engine over long runs, with much held.
func TestTwoEngines(t *testing.T) {
	s := numbers(20)
	for _, late := range []int{0, 40, 3000} {
		c := of(late, api.Query{Kind: api.KindSession, Agg: api.AggSum, Size: 2}, api.Query{Kind: api.KindSession, Agg: api.AggHist, Size: 15, Bounds: []int{0}},
			api.Query{Kind: api.KindSliding, Agg: api.AggRank, Size: 64, Slide: 3, Bounds: []int{-3, 0, 3}, Rank: 500}, api.Query{Agg: api.AggLast, Size: 100}, api.Query{Kind: api.KindSliding, Agg: api.AggMax, Size: 7, Slide: 5})
		a, f := inorder.New(c)
		if f != api.OK {
			t.Fatalf("P18.1: error %d", f)
		}
		b := made(t, c)
		for i := range 6000 {
			x := api.Item{Series: s.next(5), Time: i - s.next(late+1), Seq: 1 + i, Value: s.next(13) - 6}
			wantFeed(t, b, a.Feed(x), x)
			if s.next(3) == 0 {
				want, _ := a.Mark(i)
				wantMark(t, b, i, want...)
			}
			if i%500 == 0 {
				wantHeld(t, b, a.Held()...)
			}
		}
		want, _ := a.Mark(api.MaxMark)
		wantMark(t, b, api.MaxMark, want...)
		wantHeld(t, b)
	}
}

// TestOnce: each window that holds an item goes out at just one of many marks, and none gets an item more.
func TestOnce(t *testing.T) {
	s := numbers(3)
	for range 200 {
		c := s.config()
		e := made(t, c)
		var all []api.Item
		var got []api.Result
		for i := range 120 {
			x := api.Item{Series: s.next(2), Time: i - s.next(c.Late+1), Seq: 1 + i, Value: s.next(9) - 4}
			wantFeed(t, e, api.OK, x)
			all = append(all, x)
			out, f := e.Mark(i)
			if f != api.OK {
				t.Fatalf("P20.2: error %d", f)
			}
			got = append(got, out...)
		}
		out, _ := e.Mark(api.MaxMark)
		if want, _ := spec.Results(c, all, api.NoMark, api.MaxMark); !same(append(got, out...), want) {
			t.Fatalf("T4: %v: %v; want %v", c, append(got, out...), want)
		}
	}
}

// TestManySeries: as many items as there may be, of few series and of as many as they are, in as many windows as may hold each.
func TestManySeries(t *testing.T) {
	q := api.Query{Kind: api.KindSliding, Agg: api.AggHist, Size: 64, Slide: 1, Bounds: []int{1, 2, 3, 4, 5, 6, 7, 8}}
	for _, w := range []struct{ series, queries int }{{1, api.MaxQueries}, {64, 2}, {api.MaxItems, 1}} {
		c := of(30, slices.Repeat([]api.Query{q}, w.queries)...)
		var xs []api.Item
		for i := range api.MaxItems {
			xs = append(xs, api.Item{Series: i * 7 % w.series, Time: i / 64, Seq: 1 + i, Value: i % 10})
		}
		e := made(t, c)
		wantFeed(t, e, api.OK, xs...)
		mark := api.NoMark
		for _, least := range []int{0, 31, 95, 96, 150, api.MaxMark} {
			want, _ := spec.Results(c, xs, mark, least)
			wantMark(t, e, least, want...)
			held, _ := spec.Held(c, xs, least)
			wantHeld(t, e, held...)
			mark = least
		}
	}
}

// TestLong: items and marks without end, with much held and with little.
func TestLong(t *testing.T) {
	const items = 30000
	for _, late := range []int{0, 2000} {
		e := made(t, of(late, api.Query{Kind: api.KindSession, Size: 1}, api.Query{Size: 1000}, api.Query{Kind: api.KindSliding, Agg: api.AggMin, Size: 60, Slide: 30}))
		var told [3]int
		count := func(out []api.Result, f api.Errno) {
			if f != api.OK {
				t.Fatalf("P20.2: error %d", f)
			}
			for _, r := range out {
				told[r.Query]++
			}
		}
		for i := range items {
			wantFeed(t, e, api.OK, api.Item{Series: i % 8, Time: i, Seq: 1 + i})
			count(e.Mark(i))
		}
		count(e.Mark(api.MaxMark))
		if want := [3]int{items, items / 1000 * 8, (items/30 + 1) * 8}; told != want {
			t.Fatalf("P20.2: %v windows; want %v", told, want)
		}
		wantHeld(t, e)
	}
}

// TestShared: nothing that is handed in is changed or kept, and nothing that is answered is shared.
func TestShared(t *testing.T) {
	c := of(0, api.Query{Agg: api.AggHist, Size: 10, Bounds: []int{15, 25}}, api.Query{Kind: api.KindSliding, Agg: api.AggHist, Size: 10, Slide: 1, Bounds: []int{15, 25}})
	was := of(0, api.Query{Agg: api.AggHist, Size: 10, Bounds: []int{15, 25}}, api.Query{Kind: api.KindSliding, Agg: api.AggHist, Size: 10, Slide: 1, Bounds: []int{15, 25}})
	e := made(t, c)
	spare := []api.Item{at(7, 1), at(2, 2), at(4, 3), at(9, 9)}
	wantFeed(t, e, api.OK, spare[:3]...)
	if !slices.Equal(spare, []api.Item{at(7, 1), at(2, 2), at(4, 3), at(9, 9)}) {
		t.Fatalf("R4: handed in: %v", spare)
	}
	held := []api.Item{at(2, 2), at(4, 3), at(7, 1)}
	want, _ := spec.Results(was, held, api.NoMark, 12)
	last, _ := spec.Results(was, held, 12, api.MaxMark)
	for i := range c.Queries {
		c.Queries[i].Bounds[0] = -99
		c.Queries[i].Size = 3
	}
	clear(spare)
	for range 3 {
		clear(e.Held())
		wantHeld(t, e, held...)
	}
	got, _ := e.Mark(12)
	if !same(got, want) {
		t.Fatalf("P20.2: %v; want %v", got, want)
	}
	for i := range got {
		got[i].Out.Hist = append(got[i].Out.Hist[:0], 99, 99, 99)
		if !same(got[i+1:], want[i+1:]) {
			t.Fatalf("R4: result %d shares its Hist", i)
		}
	}
	clear(e.Held())
	wantMark(t, e, api.MaxMark, last...)
}

// TestTwo: engines have nothing in common.
func TestTwo(t *testing.T) {
	c := of(0, api.Query{Size: 10})
	a, b := made(t, c), made(t, c)
	wantFeed(t, a, api.OK, at(5, 7))
	wantFeed(t, b, api.OK, at(6, 1))
	wantMark(t, a, 10, told(0, 0, 10, 1))
	wantFeed(t, b, api.OK, at(7, 2))
	wantHeld(t, a)
	wantHeld(t, b, at(6, 1), at(7, 2))
	wantMark(t, b, 10, told(0, 0, 10, 2))
}

// TestNone: no engine, and one that New did not make.
func TestNone(t *testing.T) {
	var none *lazy.Engine
	for _, w := range []struct {
		e    *lazy.Engine
		want api.Errno
	}{{none, api.ErrNil}, {&lazy.Engine{}, api.ErrLazyForm}} {
		for _, xs := range [][]api.Item{nil, {at(0, 1)}, {{}}} {
			wantFeed(t, w.e, w.want, xs...)
		}
		for _, least := range []int{0, api.NoMark, api.MaxMark, api.MaxMark + 1} {
			if out, f := w.e.Mark(least); out != nil || f != w.want {
				t.Errorf("R3: Mark(%d): %v, error %d; want %d", least, out, f, w.want)
			}
		}
		wantHeld(t, w.e)
	}
}

// TestFace: an engine has the chapter's methods alone, and nothing else of it is to be seen.
func TestFace(t *testing.T) {
	face := reflect.TypeFor[*lazy.Engine]()
	var names []string
	for i := range face.NumMethod() {
		names = append(names, face.Method(i).Name)
	}
	if !slices.Equal(names, []string{"Feed", "Held", "Mark"}) {
		t.Errorf("methods: %v", names)
	}
	for i := range face.Elem().NumField() {
		if f := face.Elem().Field(i); f.IsExported() {
			t.Errorf("field %s", f.Name)
		}
	}
}
