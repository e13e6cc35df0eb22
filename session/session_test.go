package session_test

import (
	"cmp"
	"math"
	"reflect"
	"slices"
	"sync"
	"testing"
	"time"

	"bourne/acc"
	"bourne/api"
	"bourne/session"
)

// at gives an item of series 3.
func at(time int, seq int, value int) api.Item {
	return api.Item{Series: 3, Time: time, Seq: seq, Value: value}
}

// times gives items of these Times, their places from 1 on as Seq and Value.
func times(ts ...int) []api.Item {
	var xs []api.Item
	for i, t := range ts {
		xs = append(xs, at(t, i+1, i+1))
	}
	return xs
}

// of gives the session of these items, whatever gaps are between them.
func of(bounds []int, xs ...api.Item) api.Session {
	var as []api.Acc
	for _, x := range xs {
		a, _ := acc.One(x, bounds)
		as = append(as, a)
	}
	a, _ := acc.Join(bounds, as...)
	return api.Session{First: a.First.Time, Last: a.Last.Time, Acc: a}
}

// whole gives a session of count items, without bounds, from first to last.
func whole(count int, first api.Item, last api.Item) api.Session {
	low, high := min(first.Value, last.Value), max(first.Value, last.Value)
	a := api.Acc{Count: count, Sum: count * low, Min: low, Max: high, First: first, Last: last, Hist: []int{count}}
	return api.Session{First: first.Time, Last: last.Time, Acc: a}
}

// copyOf gives sessions that share nothing with ss.
func copyOf(ss []api.Session) []api.Session {
	out := slices.Clone(ss)
	for i := range out {
		out[i].Acc.Hist = slices.Clone(out[i].Acc.Hist)
	}
	return out
}

// same tells whether both are alike; an empty list and nil are one.
func same(left []api.Session, right []api.Session) bool {
	return len(left) == 0 && len(right) == 0 || reflect.DeepEqual(left, right)
}

// wantAdd holds Add's answer against want, and this against May.
func wantAdd(t *testing.T, ss []api.Session, gap int, bounds []int, xs []api.Item, want []api.Session) {
	t.Helper()
	got, e := session.Add(ss, gap, bounds, xs...)
	if e != api.OK || !same(got, want) {
		t.Errorf("P6.1: Add(%v, %d, %v, %v): %v, error %d; want %v", ss, gap, bounds, xs, got, e, want)
	}
	if !session.May(got, gap, bounds) {
		t.Errorf("P6.1: Add(%v, %d, %v, %v): %v may not be", ss, gap, bounds, xs, got)
	}
}

// wantNoAdd holds Add's refusal against want; beside it there is nothing (R2).
func wantNoAdd(t *testing.T, ss []api.Session, gap int, bounds []int, xs []api.Item, want api.Errno) {
	t.Helper()
	if got, e := session.Add(ss, gap, bounds, xs...); e != want || len(got) != 0 {
		t.Errorf("P6.1: Add(%v, %d, %v, %v): %v, error %d; want nothing, error %d", ss, gap, bounds, xs, got, e, want)
	}
}

// wantNot: these sessions may not be, whatever comes to them.
func wantNot(t *testing.T, ss []api.Session, gap int, bounds []int) {
	t.Helper()
	if session.May(ss, gap, bounds) {
		t.Errorf("P6.1: May takes %v, gap %d, bounds %v", ss, gap, bounds)
	}
	for _, xs := range [][]api.Item{nil, times(0), times(500, -500), {{}}} {
		wantNoAdd(t, ss, gap, bounds, xs, api.ErrSessionForm)
	}
}

var goodGaps = []int{1, 2, 1000, api.MaxSpan - 1, api.MaxSpan}

var badGaps = []int{0, -1, -api.MaxSpan, api.MaxSpan + 1, math.MinInt, math.MaxInt}

var badBounds = [][]int{{0, 0}, {1, 0}, {1, 3, 2}, {-api.MaxValue - 1}, {api.MaxValue + 1}, {1, 2, 3, 4, 5, 6, 7, 8, 9}}

var badItems = []api.Item{
	{}, {Series: 3}, {Series: -1, Seq: 1}, {Series: api.MaxId + 1, Seq: 1},
	at(-api.MaxTime-1, 1, 0), at(api.MaxTime+1, 1, 0), at(math.MinInt, 1, 0), at(math.MaxInt, 1, 0),
	at(0, 0, 0), at(0, -1, 0), at(0, api.MaxSeq+1, 0), at(0, math.MaxInt, 0),
	at(0, 1, -api.MaxValue-1), at(0, 1, api.MaxValue+1), at(0, 1, math.MinInt),
}

func TestMay(t *testing.T) {
	for _, gap := range goodGaps {
		for _, bounds := range [][]int{nil, {}, {0}, {-api.MaxValue, api.MaxValue}, {1, 2, 3, 4, 5, 6, 7, 8}} {
			first, second := of(bounds, at(-7, 2, 5)), of(bounds, at(gap-7, 1, -5), at(gap-3, 3, 0))
			third := of(bounds, at(2*gap-3, 9, 9))
			for i, ss := range [][]api.Session{nil, {}, {first}, {second}, {first, second}, {second, third}, {first, second, third}, {first, third}} {
				if !session.May(ss, gap, bounds) {
					t.Errorf("P6.1: gap %d, bounds %v, row %d: May refuses %v", gap, bounds, i, ss)
				}
				wantAdd(t, ss, gap, bounds, nil, ss)
			}
		}
	}
}

// TestMayAtTheEnds: at the limits of an item, and of greatest count.
func TestMayAtTheEnds(t *testing.T) {
	low, high := at(-api.MaxTime, api.MaxSeq, -api.MaxValue), at(api.MaxTime, 1, api.MaxValue)
	for i, ss := range [][]api.Session{
		{of(nil, low), of(nil, high)},
		// What is known of some items tells nothing of the gaps between them.
		{of(nil, low, high)},
		{whole(api.MaxItems, low, low), whole(api.MaxItems, high, high)},
		{of(nil, api.Item{Time: 1, Seq: 1}), of(nil, api.Item{Time: 1 + api.MaxSpan, Seq: 1})},
		{of(nil, api.Item{Series: api.MaxId, Seq: 1})},
		// The numbers need not rise with the times.
		{of(nil, at(0, 9, 0)), of(nil, at(api.MaxSpan, 9, 0)), of(nil, at(2*api.MaxSpan, 1, 0))},
	} {
		for _, gap := range goodGaps {
			if !session.May(ss, gap, nil) {
				t.Errorf("P6.1: row %d: May refuses %v, gap %d", i, ss, gap)
			}
		}
	}
}

func TestMayNotByGapOrBounds(t *testing.T) {
	for _, ss := range [][]api.Session{nil, {}, {of(nil, at(0, 1, 0))}, {of(nil, at(0, 1, 0)), of(nil, at(api.MaxTime, 2, 0))}} {
		for _, gap := range badGaps {
			wantNot(t, ss, gap, nil)
		}
		for _, bounds := range badBounds {
			wantNot(t, ss, 5, bounds)
		}
	}
	for _, bounds := range badBounds {
		wantNot(t, []api.Session{{Acc: api.Acc{Hist: make([]int, len(bounds)+1)}}}, 5, bounds)
		s := of(nil, at(0, 1, 0))
		s.Acc.Hist = append([]int{1}, make([]int, len(bounds))...)
		wantNot(t, []api.Session{s}, 5, bounds)
	}
	// Of other bounds than those of the sessions.
	wantNot(t, []api.Session{of(nil, at(0, 1, 0))}, 5, []int{0})
	wantNot(t, []api.Session{of([]int{0}, at(0, 1, 0))}, 5, nil)
	wantNot(t, []api.Session{of([]int{0}, at(0, 1, 0)), of(nil, at(9, 1, 0))}, 5, []int{0})
}

// TestMayNotByOne: a session that may not be, in each place of a row.
func TestMayNotByOne(t *testing.T) {
	good := func() api.Session { return of([]int{2}, at(0, 5, 2), at(3, 4, 4), at(4, 7, 3)) }
	if !session.May([]api.Session{good()}, 5, []int{2}) {
		t.Fatal("P6.1: May refuses the good one")
	}
	for i, turn := range []func(s *api.Session){
		func(s *api.Session) { *s = api.Session{} },
		func(s *api.Session) { *s = api.Session{Acc: api.Acc{Hist: []int{0, 0}}} },
		func(s *api.Session) { s.Acc = api.Acc{Hist: []int{0, 0}} },
		func(s *api.Session) { s.First++ },
		func(s *api.Session) { s.First-- },
		func(s *api.Session) { s.Last++ },
		func(s *api.Session) { s.Last-- },
		func(s *api.Session) { s.First, s.Last = s.Last, s.First },
		func(s *api.Session) { s.First, s.Last = s.First+10, s.Last+10 },
		func(s *api.Session) { s.First = math.MinInt },
		func(s *api.Session) { s.Last = math.MaxInt },
		func(s *api.Session) { s.First, s.Last = s.Acc.First.Seq, s.Acc.Last.Seq },
		func(s *api.Session) { s.First, s.Acc.First.Time = api.MaxTime+1, api.MaxTime+1 },
		func(s *api.Session) { s.First, s.Acc.First.Time = math.MinInt, math.MinInt },
		func(s *api.Session) { s.Last, s.Acc.Last.Time = math.MaxInt, math.MaxInt },
		func(s *api.Session) { s.First, s.Acc.First.Time = 5, 5 },
		func(s *api.Session) { s.Acc.First.Series = 4 },
		func(s *api.Session) { s.Acc.First.Series, s.Acc.Last.Series = -1, -1 },
		func(s *api.Session) { s.Acc.Last.Seq = 0 },
		func(s *api.Session) { s.Acc.Count = 2 },
		func(s *api.Session) { s.Acc.Count, s.Acc.Hist = -1, []int{0, -1} },
		func(s *api.Session) { s.Acc.Count, s.Acc.Sum, s.Acc.Hist = 8193, 20000, []int{1, 8192} },
		func(s *api.Session) { s.Acc.Sum = 13 },
		func(s *api.Session) { s.Acc.Min = 5 },
		func(s *api.Session) { s.Acc.Max = 2 },
		func(s *api.Session) { s.Acc.Hist = []int{3} },
		func(s *api.Session) { s.Acc.Hist = nil },
	} {
		bad := good()
		turn(&bad)
		ahead, behind := of([]int{2}, at(-100, 1, 0)), of([]int{2}, at(100, 1, 0))
		for _, ss := range [][]api.Session{{bad}, {ahead, bad}, {bad, behind}, {ahead, bad, behind}, {ahead, of([]int{2}, at(-50, 1, 0)), bad}} {
			if session.May(ss, 5, []int{2}) {
				t.Errorf("P6.1: row %d: May takes %v", i, ss)
			}
			wantNot(t, ss, 5, []int{2})
		}
	}
}

// TestMayNotByRow: sessions each of which may be, but not so beside one another.
func TestMayNotByRow(t *testing.T) {
	for _, gap := range goodGaps {
		a, far := of(nil, at(0, 1, 0), at(3, 2, 0)), of(nil, at(10*api.MaxSpan, 5, 0))
		for _, first := range []int{3 + gap - 1, 4, 3, 2, 0, -1, -gap} {
			if first-3 >= gap {
				continue
			}
			b := of(nil, at(first, 3, 0))
			wantNot(t, []api.Session{a, b}, gap, nil)
			wantNot(t, []api.Session{a, b, far}, gap, nil)
			wantNot(t, []api.Session{of(nil, at(-10*api.MaxSpan, 1, 0)), a, b}, gap, nil)
		}
		wantNot(t, []api.Session{far, a}, gap, nil)
		wantNot(t, []api.Session{a, a}, gap, nil)
	}
	three, four := of(nil, at(0, 1, 0)), of(nil, api.Item{Series: 4, Time: 50, Seq: 2})
	none, last := of(nil, api.Item{Time: -50, Seq: 3}), of(nil, at(100, 3, 0))
	for _, ss := range [][]api.Session{{three, four}, {none, three}, {none, four}, {three, four, last}, {none, three, last}, {none, last}} {
		wantNot(t, ss, 5, nil)
	}
	if !session.May([]api.Session{three, last}, 5, nil) {
		t.Error("P6.1: May refuses those of one Series")
	}
}

func TestAddByHand(t *testing.T) {
	for i, c := range []struct {
		gap int
		ts  []int
		// Of each session the places, from 1 on, of its items.
		want [][]int
	}{
		{5, nil, nil},
		{5, []int{7}, [][]int{{1}}},
		{5, []int{-7}, [][]int{{1}}},
		{5, []int{0, 4}, [][]int{{1, 2}}},
		{5, []int{0, 5}, [][]int{{1}, {2}}},
		{5, []int{0, 6}, [][]int{{1}, {2}}},
		{5, []int{4, 0}, [][]int{{2, 1}}},
		{5, []int{5, 0}, [][]int{{2}, {1}}},
		{5, []int{-2, 2}, [][]int{{1, 2}}},
		{5, []int{2, -3}, [][]int{{2}, {1}}},
		{5, []int{0, 5, 4}, [][]int{{1, 3, 2}}},
		{5, []int{0, 5, 1}, [][]int{{1, 3, 2}}},
		{5, []int{0, 8, 4}, [][]int{{1, 3, 2}}},
		{5, []int{0, 9, 4}, [][]int{{1, 3}, {2}}},
		{5, []int{0, 9, 5}, [][]int{{1}, {3, 2}}},
		{5, []int{0, 10, 5}, [][]int{{1}, {3}, {2}}},
		{5, []int{0, 3, 6, 9, 12}, [][]int{{1, 2, 3, 4, 5}}},
		{5, []int{12, 9, 6, 3, 0}, [][]int{{5, 4, 3, 2, 1}}},
		{5, []int{0, 10, 20, 16, 6, 3, 13}, [][]int{{1, 6, 5, 2, 7, 4, 3}}},
		{1, []int{0, 1, 0, 2, 1}, [][]int{{1, 3}, {2, 5}, {4}}},
		{2, []int{0, 2, 5, 4, 8}, [][]int{{1}, {2}, {4, 3}, {5}}},
		{5, []int{3, 3, 3}, [][]int{{1, 2, 3}}},
		{api.MaxSpan, []int{api.MaxSpan - 1, 0}, [][]int{{2, 1}}},
		{api.MaxSpan, []int{api.MaxSpan, 0}, [][]int{{2}, {1}}},
		{api.MaxSpan, []int{api.MaxTime, -api.MaxTime}, [][]int{{2}, {1}}},
		{api.MaxSpan, []int{api.MaxTime, api.MaxTime - api.MaxSpan + 1}, [][]int{{2, 1}}},
		{api.MaxSpan, []int{-api.MaxTime, api.MaxSpan - api.MaxTime}, [][]int{{1}, {2}}},
		{1, []int{-api.MaxTime, 1 - api.MaxTime, api.MaxTime, api.MaxTime - 1, api.MaxTime}, [][]int{{1}, {2}, {4}, {3, 5}}},
	} {
		xs := times(c.ts...)
		for _, bounds := range [][]int{nil, {2}, {1, 3, 4}} {
			var want []api.Session
			for _, places := range c.want {
				var own []api.Item
				for _, p := range places {
					own = append(own, xs[p-1])
				}
				want = append(want, of(bounds, own...))
			}
			wantAdd(t, nil, c.gap, bounds, xs, want)
			if t.Failed() {
				t.Fatalf("P6.1: row %d", i)
			}
		}
	}
}

// TestAddToSessions holds one item against two sessions, at each place beside, between and within them.
func TestAddToSessions(t *testing.T) {
	bounds := []int{5}
	inA, inB := []api.Item{at(0, 1, 4), at(20, 2, 9)}, []api.Item{at(28, 3, 5), at(50, 4, 6)}
	a, b := of(bounds, inA...), of(bounds, inB...)
	for _, c := range []struct {
		gap int
		// The last Times ahead of a, with a, with both, with none between, with b.
		ahead, withA, withBoth, between, withB int
	}{
		{8, -8, 20, 27, 27, 57},
		{5, -5, 23, 24, 24, 54},
		{4, -4, 23, 23, 24, 53},
		{3, -3, 22, 22, 25, 52},
		{1, -1, 20, 20, 27, 50},
	} {
		for x := -10; x <= 60; x++ {
			one := at(x, 5, x)
			single := of(bounds, one)
			want := []api.Session{a, b, single}
			switch {
			case x <= c.ahead:
				want = []api.Session{single, a, b}
			case x <= c.withA:
				want = []api.Session{of(bounds, append(inA[:2:2], one)...), b}
			case x <= c.withBoth:
				want = []api.Session{of(bounds, append(append(inA[:2:2], inB...), one)...)}
			case x <= c.between:
				want = []api.Session{a, single, b}
			case x <= c.withB:
				want = []api.Session{a, of(bounds, append(inB[:2:2], one)...)}
			}
			wantAdd(t, []api.Session{a, b}, c.gap, bounds, []api.Item{one}, want)
		}
	}
}

// TestAddLikeOnes: of like times and numbers, First is what came ahead, Last what came behind; what a session has came ahead of the items.
func TestAddLikeOnes(t *testing.T) {
	p, q, r := at(5, 2, 10), at(5, 2, 20), at(5, 2, 30)
	for _, c := range []struct {
		ss          []api.Session
		xs          []api.Item
		first, last api.Item
	}{
		{nil, []api.Item{p, q}, p, q}, {nil, []api.Item{q, p}, q, p}, {nil, []api.Item{r, p, q}, r, q}, {nil, []api.Item{p, r, q, p}, p, p},
		{[]api.Session{of(nil, p)}, []api.Item{q}, p, q}, {[]api.Session{of(nil, q)}, []api.Item{p, r}, q, r}, {[]api.Session{of(nil, p, q)}, []api.Item{r}, p, r},
		{[]api.Session{of(nil, p)}, []api.Item{at(4, 9, 1), q}, at(4, 9, 1), q}, {[]api.Session{of(nil, p)}, []api.Item{q, at(6, 1, 1)}, p, at(6, 1, 1)},
		{nil, []api.Item{q, at(5, 1, 1), p, at(5, 3, 1)}, at(5, 1, 1), at(5, 3, 1)}, {nil, []api.Item{at(5, 3, 1), at(5, 1, 1)}, at(5, 1, 1), at(5, 3, 1)},
		{[]api.Session{of(nil, at(0, 1, 0), p)}, []api.Item{q, at(0, 1, 7)}, at(0, 1, 0), q}, {[]api.Session{of(nil, at(0, 1, 0), p), of(nil, at(12, 1, 0))}, []api.Item{at(12, 1, 7), at(8, 8, 8), q}, at(0, 1, 0), at(12, 1, 7)},
	} {
		got, e := session.Add(c.ss, 5, nil, c.xs...)
		if e != api.OK || len(got) != 1 || got[0].Acc.First != c.first || got[0].Acc.Last != c.last || got[0].First != c.first.Time || got[0].Last != c.last.Time {
			t.Errorf("P6.1: Add(%v, 5, [], %v): %v, error %d; want from %v to %v", c.ss, c.xs, got, e, c.first, c.last)
		}
	}
}

func TestAddWrongItems(t *testing.T) {
	for _, ss := range [][]api.Session{nil, {of(nil, at(0, 1, 0))}, {of(nil, at(0, 1, 0)), of(nil, at(9, 2, 0))}} {
		for _, bad := range append(slices.Clone(badItems), api.Item{Series: 4, Seq: 1}, api.Item{Seq: 1}) {
			for _, xs := range [][]api.Item{{at(0, 5, 0), bad}, {bad, at(0, 5, 0)}, {at(0, 5, 0), bad, at(1, 6, 0)}, {at(-9, 5, 0), at(99, 6, 0), bad}} {
				wantNoAdd(t, ss, 5, nil, xs, api.ErrSessionForm)
			}
			if len(ss) > 0 {
				wantNoAdd(t, ss, 5, nil, []api.Item{bad}, api.ErrSessionForm)
			}
		}
	}
	for _, bad := range badItems {
		wantNoAdd(t, nil, 5, nil, []api.Item{bad}, api.ErrSessionForm)
	}
	// Items all of one Series, another than that of the sessions.
	wantNoAdd(t, []api.Session{of(nil, at(0, 1, 0))}, 5, nil, []api.Item{{Series: 4, Time: 99, Seq: 1}, {Series: 4, Time: 999, Seq: 2}}, api.ErrSessionForm)
	wantAdd(t, nil, 5, nil, []api.Item{{Seq: 1}, {Seq: 2, Time: 1}}, []api.Session{of(nil, api.Item{Seq: 1}, api.Item{Seq: 2, Time: 1})})
}

func TestAddTotal(t *testing.T) {
	most, less := whole(api.MaxItems, at(0, 1, 0), at(3, 1, 0)), whole(api.MaxItems-1, at(0, 1, 0), at(3, 1, 0))
	far := func(count int) api.Session { return whole(count, at(9, 7, 0), at(20, 7, 0)) }
	grown := whole(api.MaxItems, at(0, 1, 0), at(7, 2, 0))
	wantAdd(t, []api.Session{less}, 5, nil, []api.Item{at(7, 2, 0)}, []api.Session{grown})
	wantAdd(t, []api.Session{most}, 5, nil, []api.Item{at(8, 2, 0), at(-5, 3, 0)}, []api.Session{of(nil, at(-5, 3, 0)), most, of(nil, at(8, 2, 0))})
	wantAdd(t, []api.Session{whole(100, at(0, 1, 0), at(3, 1, 0)), far(api.MaxItems - 101)}, 5, nil, []api.Item{at(6, 2, 0)}, []api.Session{whole(api.MaxItems, at(0, 1, 0), at(20, 7, 0))})
	wantAdd(t, []api.Session{most, far(api.MaxItems)}, 5, nil, nil, []api.Session{most, far(api.MaxItems)})
	for _, c := range []struct {
		ss []api.Session
		xs []api.Item
	}{
		{[]api.Session{most}, []api.Item{at(7, 2, 0)}},
		{[]api.Session{most}, []api.Item{at(-4, 2, 0)}},
		{[]api.Session{most}, []api.Item{at(1, 2, 0)}},
		{[]api.Session{most}, []api.Item{at(100, 2, 0), at(7, 3, 0), at(200, 4, 0)}},
		{[]api.Session{less}, []api.Item{at(7, 2, 0), at(11, 3, 0)}},
		{[]api.Session{less}, []api.Item{at(11, 3, 0), at(7, 2, 0)}},
		{[]api.Session{of(nil, at(-9, 1, 0)), most, far(1)}, []api.Item{at(-2, 2, 0)}},
		// Each alone may be; what lies between makes one of both.
		{[]api.Session{whole(100, at(0, 1, 0), at(3, 1, 0)), far(api.MaxItems - 100)}, []api.Item{at(6, 2, 0)}},
		{[]api.Session{most, far(api.MaxItems)}, []api.Item{at(6, 2, 0)}},
	} {
		wantNoAdd(t, c.ss, 5, nil, c.xs, api.ErrAccTotal)
		// Where both errors apply, ErrSessionForm is answered (R6), wherever the fault stands.
		for _, bad := range []api.Item{{}, {Series: 4, Time: 1, Seq: 1}, at(api.MaxTime+1, 1, 0)} {
			wantNoAdd(t, c.ss, 5, nil, append(slices.Clone(c.xs), bad), api.ErrSessionForm)
			wantNoAdd(t, c.ss, 5, nil, append([]api.Item{bad}, c.xs...), api.ErrSessionForm)
		}
		wantNoAdd(t, c.ss, 5, []int{1, 1}, c.xs, api.ErrSessionForm)
		wantNoAdd(t, c.ss, 0, nil, c.xs, api.ErrSessionForm)
	}
}

// TestAddMostItems: MaxItems items make one session, one more makes none.
func TestAddMostItems(t *testing.T) {
	var xs []api.Item
	for i := range api.MaxItems {
		xs = append(xs, at(-i, i+1, 1))
	}
	want := []api.Session{whole(api.MaxItems, xs[api.MaxItems-1], xs[0])}
	wantAdd(t, nil, 2, nil, xs, want)
	wantNoAdd(t, nil, 2, nil, append(slices.Clone(xs), at(1, 9000, 1)), api.ErrAccTotal)
	wantNoAdd(t, nil, 2, nil, append([]api.Item{at(1, 9000, 1)}, xs...), api.ErrAccTotal)
	wantAdd(t, nil, 2, nil, append([]api.Item{at(2, 9000, 1)}, xs...), append(want, of(nil, at(2, 9000, 1))))
}

// oneByOne does what the chapter says, by its words: one item behind the other.
func oneByOne(ss []api.Session, gap int, bounds []int, xs []api.Item) ([]api.Session, api.Errno) {
	out := copyOf(ss)
	for _, x := range xs {
		var own []api.Acc
		var ahead, behind []api.Session
		for _, s := range out {
			switch {
			case s.Last > x.Time-gap && s.First < x.Time+gap:
				own = append(own, s.Acc)
			case s.First < x.Time:
				ahead = append(ahead, s)
			default:
				behind = append(behind, s)
			}
		}
		one, _ := acc.One(x, bounds)
		all, e := acc.Join(bounds, append(own, one)...)
		if e != api.OK {
			return nil, e
		}
		out = append(append(ahead, api.Session{First: all.First.Time, Last: all.Last.Time, Acc: all}), behind...)
	}
	return out, api.OK
}

// numbers is a row of numbers that look like chance.
type numbers uint64

func (n *numbers) below(most int) int {
	*n = *n*6364136223846793005 + 1442695040888963407
	return int(uint64(*n) >> 33 % uint64(most))
}

// shuffle gives xs in some row.
func (n *numbers) shuffle(xs []api.Item) []api.Item {
	out := slices.Clone(xs)
	for i := range out {
		k := i + n.below(len(out)-i)
		out[i], out[k] = out[k], out[i]
	}
	return out
}

// row gives some sessions that may be, wide ones and great ones among them.
func (n *numbers) row(gap int, bounds []int) []api.Session {
	var ss []api.Session
	for end := -40; n.below(4) > 0; {
		first := end + n.below(2*gap)
		s := of(bounds, at(first, 1+n.below(4), n.below(9)), at(first+n.below(4)*n.below(9), 5+n.below(4), n.below(9)))
		if n.below(6) == 0 {
			// Some items short of the most.
			more := api.MaxItems - n.below(6) - s.Acc.Count
			s.Acc.Count, s.Acc.Sum, s.Acc.Hist[0] = s.Acc.Count+more, s.Acc.Sum+more*s.Acc.Min, s.Acc.Hist[0]+more
		}
		ss, end = append(ss, s), s.Last+gap
	}
	return ss
}

// TestAddOneByOne holds Add, of like items and of sessions near MaxItems too, against the chapter's own walk.
func TestAddOneByOne(t *testing.T) {
	n := numbers(3)
	fine, over := 0, 0
	for range 20000 {
		gap := 1 + n.below(9)
		bounds := [][]int{nil, {4}, {-1, 2, 7}}[n.below(3)]
		ss := n.row(gap, bounds)
		if !session.May(ss, gap, bounds) {
			t.Fatalf("P6.1: May refuses %v, gap %d, bounds %v", ss, gap, bounds)
		}
		var xs []api.Item
		for range n.below(12) {
			xs = append(xs, at(n.below(100)-50, 1+n.below(8), n.below(12)-2))
		}
		want, e := oneByOne(ss, gap, bounds, xs)
		if e != api.OK {
			over++
			wantNoAdd(t, ss, gap, bounds, xs, e)
		} else {
			fine++
			wantAdd(t, ss, gap, bounds, xs, want)
		}
		if t.Failed() {
			t.FailNow()
		}
	}
	if fine < 1000 || over < 1000 {
		t.Errorf("P6.1: %d rows were taken, %d were too great: too few to tell", fine, over)
	}
}

// TestAddInParts: items that come by several calls make what they make by one.
func TestAddInParts(t *testing.T) {
	n := numbers(5)
	for range 3000 {
		gap, bounds := 1+n.below(6), []int{2, 5}
		var xs []api.Item
		for range n.below(20) {
			xs = append(xs, at(n.below(60)-30, 1+n.below(5), n.below(9)))
		}
		whole, _ := session.Add(nil, gap, bounds, xs...)
		var ss []api.Session
		for rest := xs; len(rest) > 0; {
			cut := 1 + n.below(len(rest))
			ss, _ = session.Add(ss, gap, bounds, rest[:cut]...)
			rest = rest[cut:]
		}
		if !same(ss, whole) {
			t.Fatalf("P6.1: gap %d, %v: %v in parts, %v at once", gap, xs, ss, whole)
		}
	}
}

// byGaps gives by hand the sessions of items: the sorted row, cut at each gap.
func byGaps(gap int, bounds []int, xs []api.Item) []api.Session {
	row := slices.Clone(xs)
	slices.SortFunc(row, func(x api.Item, y api.Item) int {
		return cmp.Or(cmp.Compare(x.Time, y.Time), cmp.Compare(x.Seq, y.Seq))
	})
	var out []api.Session
	for start, i := 0, 1; i <= len(row); i++ {
		if i == len(row) || row[i].Time-row[i-1].Time >= gap {
			out = append(out, of(bounds, row[start:i]...))
			start = i
		}
	}
	return out
}

// eachRow calls f with xs in each row.
func eachRow(xs []api.Item, f func(xs []api.Item)) {
	var walk func(k int)
	walk = func(k int) {
		if k == len(xs) {
			f(xs)
			return
		}
		for i := k; i < len(xs); i++ {
			xs[k], xs[i] = xs[i], xs[k]
			walk(k + 1)
			xs[k], xs[i] = xs[i], xs[k]
		}
	}
	walk(0)
}

func TestEachRow(t *testing.T) {
	for _, ts := range [][]int{{0, 3, 5, 9, 10, 14}, {0, 5, 10, 15, 20, 25}, {0, 4, 8, 12, 16, 20}, {0, 0, 4, 4, 9, 9}, {-12, -7, -3, 0, 5, 9}} {
		for _, gap := range []int{1, 4, 5, 6, 100} {
			xs := times(ts...)
			want := byGaps(gap, nil, xs)
			eachRow(xs, func(xs []api.Item) {
				if got, e := session.Add(nil, gap, nil, xs...); e != api.OK || !same(got, want) {
					t.Fatalf("P6.2: gap %d, %v: %v, error %d; want %v", gap, xs, got, e, want)
				}
			})
		}
	}
}

func TestSomeRows(t *testing.T) {
	n := numbers(11)
	for range 2000 {
		gap, bounds := 1+n.below(12), []int{3}
		var xs []api.Item
		for i := range n.below(40) {
			xs = append(xs, at(n.below(300)-150, i+1, n.below(9)))
		}
		want := byGaps(gap, bounds, xs)
		for range 4 {
			wantAdd(t, nil, gap, bounds, n.shuffle(xs), want)
		}
		if t.Failed() {
			t.FailNow()
		}
	}
}

// TestRowsOfLikeOnes: but for the First and Last of like times and numbers, the sessions are the same.
func TestRowsOfLikeOnes(t *testing.T) {
	n := numbers(13)
	bare := func(ss []api.Session) []api.Session {
		for i := range ss {
			ss[i].Acc.First.Value, ss[i].Acc.Last.Value = 0, 0
		}
		return ss
	}
	for range 1000 {
		var xs []api.Item
		for range n.below(20) {
			xs = append(xs, at(n.below(20), 1+n.below(2), n.below(9)))
		}
		left, _ := session.Add(nil, 2, nil, xs...)
		right, _ := session.Add(nil, 2, nil, n.shuffle(xs)...)
		if !same(bare(left), bare(right)) {
			t.Fatalf("P6.2: %v: %v, then %v", xs, left, right)
		}
	}
}

// spread writes over a list and all its spare room.
func spread(ss []api.Session) {
	for _, s := range ss {
		hist := s.Acc.Hist[:cap(s.Acc.Hist)]
		for i := range hist {
			hist[i] = -77
		}
	}
	ss = ss[:cap(ss)]
	for i := range ss {
		ss[i] = api.Session{First: -77}
	}
}

// TestNothingShared: R4, with spare room behind each list and one list in two of the sessions handed in.
func TestNothingShared(t *testing.T) {
	bounds := []int{5, 99}[:1]
	hist := append(make([]int, 0, 9), 0, 1)
	ss := []api.Session{of(bounds, at(0, 1, 7)), of(bounds, at(20, 2, 7)), of(bounds, at(40, 3, 7)), {First: -99}}[:3]
	ss[0].Acc.Hist, ss[1].Acc.Hist = hist, hist
	xs := []api.Item{at(60, 9, 1), at(3, 8, 2), at(23, 7, 3), at(-9, 6, 4), at(77, 5, 5)}[:4]
	had, hadRoom := copyOf(ss), slices.Clone(xs[:5])
	for _, some := range [][]api.Item{nil, xs[:0], xs[:1], xs[1:2], xs} {
		left, e := session.Add(ss, 5, bounds, some...)
		right, _ := session.Add(ss, 5, bounds, some...)
		if e != api.OK {
			t.Fatalf("P6.1: error %d", e)
		}
		want := copyOf(right)
		spread(left)
		if !same(right, want) {
			t.Errorf("R4: %v: two answers share a list", some)
		}
		for i := range right {
			right[i].Acc.Hist[0] += 1000 * (i + 1)
			if got := right[i].Acc.Hist[0]; got != want[i].Acc.Hist[0]+1000*(i+1) {
				t.Errorf("R4: %v: two lists of one answer are one: %d", some, got)
			}
		}
		spread(right)
		if again, _ := session.Add(ss, 5, bounds, some...); !same(again, want) {
			t.Errorf("R5: %v: %v, then %v", some, want, again)
		}
		session.May(ss, 5, bounds)
		if !same(ss, had) || ss[:4][3].First != -99 || !slices.Equal(hist[:9], []int{0, 1, 0, 0, 0, 0, 0, 0, 0}) {
			t.Fatalf("R4: the sessions handed in changed: %v", ss)
		}
		if !slices.Equal(xs[:5], hadRoom) || !slices.Equal(bounds[:2], []int{5, 99}) {
			t.Fatalf("R4: the items or bounds handed in changed: %v, %v", xs[:5], bounds[:2])
		}
	}
}

// TestRefusedChangesNothing: R4 and R5 where the call answers an error.
func TestRefusedChangesNothing(t *testing.T) {
	ss := []api.Session{whole(api.MaxItems, at(0, 1, 0), at(0, 1, 0)), of(nil, at(40, 3, 7))}
	had := copyOf(ss)
	for _, xs := range [][]api.Item{{at(60, 9, 1), at(41, 9, 1), at(3, 8, 2)}, {at(60, 9, 1), at(41, 8, 2), {}}} {
		room := slices.Clone(xs)
		if got, e := session.Add(ss, 5, nil, xs...); e == api.OK || len(got) != 0 {
			t.Errorf("P6.1: %v, error %d", got, e)
		}
		if !same(ss, had) || !slices.Equal(xs, room) {
			t.Errorf("R4: what was handed in changed: %v, %v", ss, xs)
		}
	}
}

// TestSizes: many sessions and items in each row end in a time that their numbers explain; an item that moved all sessions behind it would take minutes.
func TestSizes(t *testing.T) {
	const many = 150000
	began := time.Now()
	down, up, spreadOut := make([]api.Item, many), make([]api.Item, many), make([]api.Item, many)
	for i := range many {
		down[i], up[i] = at(10*(many-i), i+1, 1), at(10*i, i+1, 1)
		spreadOut[i] = at(10*(i*7919%many), i+1, 1)
	}
	for _, xs := range [][]api.Item{down, up, spreadOut} {
		ss, e := session.Add(nil, 5, nil, xs...)
		if len(ss) != many || e != api.OK {
			t.Fatalf("P6.1: %d sessions, error %d", len(ss), e)
		}
		if ss, e = session.Add(ss, 5, nil, xs...); len(ss) != many || e != api.OK || ss[0].Acc.Count != 2 {
			t.Fatalf("P6.1: %d sessions, error %d", len(ss), e)
		}
	}
	if took := time.Since(began); took > time.Minute {
		t.Errorf("R1: many items took %v", took)
	}
}

// TestTogether: plain functions, from several goroutines at one time (R5).
func TestTogether(t *testing.T) {
	ss, bounds := []api.Session{of([]int{2}, at(0, 1, 1)), of([]int{2}, at(9, 2, 3))}, []int{2}
	xs := []api.Item{at(30, 5, 1), at(5, 4, 2), at(-20, 3, 3)}
	want := []api.Session{of(bounds, xs[2]), of(bounds, at(0, 1, 1)), of(bounds, xs[1], at(9, 2, 3)), of(bounds, xs[0])}
	var all sync.WaitGroup
	for range 8 {
		all.Go(func() {
			for range 300 {
				wantAdd(t, ss, 5, bounds, xs, want)
				wantNoAdd(t, ss, 10, bounds, xs, api.ErrSessionForm)
			}
		})
	}
	all.Wait()
}
