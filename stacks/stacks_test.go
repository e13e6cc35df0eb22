package stacks_test

import (
	"math"
	"reflect"
	"slices"
	"sync"
	"testing"

	"bourne/acc"
	"bourne/api"
	"bourne/stacks"
)

// numbers is a row of numbers that looks like none.
type numbers uint32

// next gives one from 0 to below n.
func (s *numbers) next(n int) int {
	*s = *s*1664525 + 1013904223
	return int(*s>>8) % n
}

// item gives one of series 3 out of few, so that many stand alike and have unlike values.
func (s *numbers) item() api.Item {
	return api.Item{Series: 3, Time: s.next(3) - 1, Seq: 1 + s.next(2), Value: s.next(9) - 4}
}

// several gives what is known of up to so many items out of few; of none it is the empty one.
func (s *numbers) several(t *testing.T, most int, bounds []int) api.Acc {
	t.Helper()
	out := joined(t, bounds)
	for range s.next(most + 1) {
		out = joined(t, bounds, out, one(t, bounds, s.item()))
	}
	return out
}

// one gives what is known of x.
func one(t *testing.T, bounds []int, x api.Item) api.Acc {
	t.Helper()
	out, e := acc.One(x, bounds)
	if e != api.OK {
		t.Fatalf("P1.1: One(%v): error %d", x, e)
	}
	return out
}

// joined gives layer 1's Join of as, which may be.
func joined(t *testing.T, bounds []int, as ...api.Acc) api.Acc {
	t.Helper()
	out, e := acc.Join(bounds, as...)
	if e != api.OK {
		t.Fatalf("P1.2: Join of %d: error %d", len(as), e)
	}
	return out
}

// whole gives an aggregate with no bounds: count items of a series, each of value 0.
func whole(series int, count int) api.Acc {
	x := api.Item{Series: series, Seq: 1}
	return api.Acc{Count: count, First: x, Last: x, Hist: []int{count}}
}

// copied gives a with a Hist of its own.
func copied(a api.Acc) api.Acc {
	a.Hist = slices.Clone(a.Hist)
	return a
}

// made gives a queue with bounds.
func made(t *testing.T, bounds []int) *stacks.Queue {
	t.Helper()
	q, e := stacks.New(bounds)
	if e != api.OK || q == nil {
		t.Fatalf("P17.1: New(%v): error %d", bounds, e)
	}
	return q
}

// wantPush holds what Push answers against want.
func wantPush(t *testing.T, q *stacks.Queue, want api.Errno, as ...api.Acc) {
	t.Helper()
	for _, a := range as {
		if e := q.Push(a); e != want {
			t.Fatalf("P17.1: Push of %v: error %d; want %d", a, e, want)
		}
	}
}

// wantRow holds Len and Total against those of a plain row.
func wantRow(t *testing.T, q *stacks.Queue, bounds []int, row ...api.Acc) {
	t.Helper()
	if q.Len() != len(row) {
		t.Fatalf("P17.1: Len: %d; want %d", q.Len(), len(row))
	}
	if got, want := q.Total(), joined(t, bounds, row...); !reflect.DeepEqual(got, want) {
		t.Fatalf("P17.1: Total: %v; want %v", got, want)
	}
}

// wantNone holds a queue to be empty.
func wantNone(t *testing.T, q *stacks.Queue, bounds []int) {
	t.Helper()
	wantRow(t, q, bounds)
	if a, e := q.Pop(); !reflect.DeepEqual(a, api.Acc{}) || e != api.ErrStacksNone {
		t.Fatalf("P17.1: Pop: %v, error %d; want none, error %d", a, e, api.ErrStacksNone)
	}
}

// wantPop holds what Pop answers against want.
func wantPop(t *testing.T, q *stacks.Queue, want api.Acc) {
	t.Helper()
	if a, e := q.Pop(); !reflect.DeepEqual(a, want) || e != api.OK {
		t.Fatalf("P17.1: Pop: %v, error %d; want %v", a, e, want)
	}
}

// wantPops takes all out and holds them against row, and what is left each time too.
func wantPops(t *testing.T, q *stacks.Queue, bounds []int, row ...api.Acc) {
	t.Helper()
	for i := range row {
		wantRow(t, q, bounds, row[i:]...)
		wantPop(t, q, row[i])
	}
	wantNone(t, q, bounds)
}

// goodBounds are lists of bounds that may be; badBounds are lists that may not.
var (
	goodBounds = [][]int{nil, {}, {0}, {-api.MaxValue}, {api.MaxValue}, {-api.MaxValue, api.MaxValue}, {-3, 3}, {1, 2, 3, 4, 5, 6, 7, 8}}
	badBounds  = [][]int{
		{0, 0}, {1, 0}, {-1, 0, 0}, {1, 3, 2}, {1, 2, 3, 4, 5, 6, 7, 7},
		{-api.MaxValue - 1}, {api.MaxValue + 1}, {math.MinInt}, {0, math.MaxInt},
		{1, 2, 3, 4, 5, 6, 7, 8, 9},
	}
)

func TestNew(t *testing.T) {
	for _, bounds := range goodBounds {
		q := made(t, bounds)
		wantNone(t, q, bounds)
		a := one(t, bounds, api.Item{Series: 3, Seq: 1, Value: 3})
		wantPush(t, q, api.OK, a)
		wantPops(t, q, bounds, a)
	}
	for _, bounds := range badBounds {
		if q, e := stacks.New(bounds); q != nil || e != api.ErrStacksForm {
			t.Errorf("P17.1: New(%v): %v, error %d; want none, error %d", bounds, q, e, api.ErrStacksForm)
		}
	}
}

func TestByHand(t *testing.T) {
	q := made(t, []int{0, 10})
	x, y, z := api.Item{Series: 3, Time: 5, Seq: 1, Value: 7}, api.Item{Series: 3, Time: 2, Seq: 2, Value: 12}, api.Item{Series: 3, Time: 9, Seq: 3, Value: -4}
	a := api.Acc{Count: 1, Sum: 7, Min: 7, Max: 7, First: x, Last: x, Hist: []int{0, 1, 0}}
	b := api.Acc{Count: 1, Sum: 12, Min: 12, Max: 12, First: y, Last: y, Hist: []int{0, 0, 1}}
	c := api.Acc{Count: 1, Sum: -4, Min: -4, Max: -4, First: z, Last: z, Hist: []int{1, 0, 0}}
	steps := []struct {
		push *api.Acc
		pop  *api.Acc
		want api.Acc
		len  int
	}{
		{push: &a, want: a, len: 1},
		{push: &b, want: api.Acc{Count: 2, Sum: 19, Min: 7, Max: 12, First: y, Last: x, Hist: []int{0, 1, 1}}, len: 2},
		{pop: &a, want: b, len: 1},
		{push: &c, want: api.Acc{Count: 2, Sum: 8, Min: -4, Max: 12, First: y, Last: z, Hist: []int{1, 0, 1}}, len: 2},
		{push: &a, want: api.Acc{Count: 3, Sum: 15, Min: -4, Max: 12, First: y, Last: z, Hist: []int{1, 1, 1}}, len: 3},
		{pop: &b, want: api.Acc{Count: 2, Sum: 3, Min: -4, Max: 7, First: x, Last: z, Hist: []int{1, 1, 0}}, len: 2},
		{pop: &c, want: a, len: 1},
		{pop: &a, want: api.Acc{Hist: []int{0, 0, 0}}},
	}
	for i, step := range steps {
		if step.push != nil {
			wantPush(t, q, api.OK, *step.push)
		}
		if step.pop != nil {
			wantPop(t, q, *step.pop)
		}
		if got := q.Total(); !reflect.DeepEqual(got, step.want) || q.Len() != step.len {
			t.Fatalf("P17.1: step %d: Total %v, Len %d; want %v, %d", i, got, q.Len(), step.want, step.len)
		}
	}
}

// TestAlike: of items that stand alike the First is that of the one ahead, the Last that of the one behind, wherever in the row and however often the row was moved on.
func TestAlike(t *testing.T) {
	for n := 1; n <= 6; n++ {
		for gone := range n {
			for ahead := range n + 1 {
				q := made(t, nil)
				var row []api.Acc
				for i := range n {
					row = append(row, one(t, nil, api.Item{Series: 3, Time: 4, Seq: 2, Value: 10 + i}))
				}
				wantPush(t, q, api.OK, row[:ahead]...)
				took := min(gone, ahead)
				for i := range took {
					wantPop(t, q, row[i])
				}
				wantPush(t, q, api.OK, row[ahead:]...)
				for i := took; i < gone; i++ {
					wantPop(t, q, row[i])
				}
				if got := q.Total(); got.First.Value != 10+gone || got.Last.Value != 9+n {
					t.Fatalf("P17.1: of %d, %d gone: First %v, Last %v", n, gone, got.First, got.Last)
				}
				wantPops(t, q, nil, row[gone:]...)
			}
		}
	}
}

// TestEachRow: each row of up to seven calls, some of which are refused.
func TestEachRow(t *testing.T) {
	bounds := []int{0}
	x := joined(t, bounds, one(t, bounds, api.Item{Series: 3, Time: 1, Seq: 1, Value: 5}), one(t, bounds, api.Item{Series: 3, Time: 4, Seq: 9, Value: -5}))
	y := one(t, bounds, api.Item{Series: 3, Time: 1, Seq: 1, Value: 2})
	other := one(t, bounds, api.Item{Series: 4, Time: 4, Seq: 9, Value: -8})
	pushes := []api.Acc{x, y, other, joined(t, bounds)}
	for n := range 8 {
		calls := 1
		for range n {
			calls *= len(pushes) + 1
		}
		for code := range calls {
			q := made(t, bounds)
			var row []api.Acc
			for range n {
				at := code % (len(pushes) + 1)
				code /= len(pushes) + 1
				row = call(t, q, bounds, row, pushes, at)
			}
			wantRow(t, q, bounds, row...)
		}
	}
}

// call pushes the one of place at, or pops where there is none, of q and of a plain row, which it gives back.
func call(t *testing.T, q *stacks.Queue, bounds []int, row []api.Acc, pushes []api.Acc, at int) []api.Acc {
	t.Helper()
	if at < len(pushes) {
		behind := append(slices.Clone(row), pushes[at])
		if _, e := acc.Join(bounds, behind...); e != api.OK {
			wantPush(t, q, api.ErrStacksForm, pushes[at])
			return row
		}
		wantPush(t, q, api.OK, pushes[at])
		return behind
	}
	if len(row) == 0 {
		wantNone(t, q, bounds)
		return row
	}
	wantPop(t, q, row[0])
	return row[1:]
}

// TestAgainstARow: many calls, held against a plain row.
func TestAgainstARow(t *testing.T) {
	s := numbers(7)
	for round := range 300 {
		bounds := goodBounds[s.next(len(goodBounds))]
		q := made(t, bounds)
		var row []api.Acc
		for step := range 120 {
			// The row grows and shrinks by turns, so that both stacks are long now and then.
			if s.next(10) < 3+4*((step/20+round)%2) {
				a := s.several(t, 3, bounds)
				wantPush(t, q, api.OK, a)
				row = append(row, copied(a))
			} else if len(row) > 0 {
				wantPop(t, q, row[0])
				row = row[1:]
			} else {
				wantNone(t, q, bounds)
			}
			wantRow(t, q, bounds, row...)
		}
		wantPops(t, q, bounds, row...)
	}
}

// wrongs are aggregates that may not be, with one bound.
func wrongs() []api.Acc {
	good := func() api.Acc {
		return api.Acc{Count: 3, Sum: 6, Min: -1, Max: 5, First: api.Item{Series: 3, Time: 1, Seq: 2, Value: 2}, Last: api.Item{Series: 3, Time: 8, Seq: 1, Value: 5}, Hist: []int{1, 2}}
	}
	out := []api.Acc{{}, {Hist: []int{0}}, {Hist: []int{0, 0, 0}}, {Hist: []int{1, 0}}, {Hist: []int{1, -1}}, {Count: 1, Hist: []int{0, 1}}, {Sum: 1, Hist: []int{0, 0}}, {First: api.Item{Series: 3}, Hist: []int{0, 0}}, {Last: api.Item{Seq: 1}, Hist: []int{0, 0}}}
	for _, change := range []func(a *api.Acc){
		func(a *api.Acc) { a.Count = 4 },
		func(a *api.Acc) { a.Count = -3 },
		func(a *api.Acc) { a.Count = math.MaxInt },
		func(a *api.Acc) { a.Count, a.Hist = api.MaxItems+1, []int{1, api.MaxItems} },
		func(a *api.Acc) { a.Sum = 16 },
		func(a *api.Acc) { a.Sum = -4 },
		func(a *api.Acc) { a.Min = 6 },
		func(a *api.Acc) { a.Min = -api.MaxValue - 1 },
		func(a *api.Acc) { a.Max = 4 },
		func(a *api.Acc) { a.Max = api.MaxValue + 1 },
		func(a *api.Acc) { a.First.Seq = 0 },
		func(a *api.Acc) { a.First.Time = 9 },
		func(a *api.Acc) { a.First.Series = 4 },
		func(a *api.Acc) { a.First.Value = 6 },
		func(a *api.Acc) { a.Last.Time = api.MaxTime + 1 },
		func(a *api.Acc) { a.Last.Series = -1 },
		func(a *api.Acc) { a.Last.Value = -2 },
		func(a *api.Acc) { a.Hist = nil },
		func(a *api.Acc) { a.Hist = []int{3} },
		func(a *api.Acc) { a.Hist = []int{1, 1} },
		func(a *api.Acc) { a.Hist = []int{1, 2, 0} },
		func(a *api.Acc) { a.Hist = []int{-1, 4} },
	} {
		a := good()
		change(&a)
		out = append(out, a)
	}
	return out
}

// TestWrong: what may not be is refused, into a queue that is empty and into one of which both stacks hold some, and leaves nothing behind (R5).
func TestWrong(t *testing.T) {
	bounds := []int{0}
	a := one(t, bounds, api.Item{Series: 3, Time: 2, Seq: 1, Value: 4})
	b := one(t, bounds, api.Item{Series: 3, Time: 1, Seq: 2, Value: -4})
	for _, wrong := range wrongs() {
		q := made(t, bounds)
		wantPush(t, q, api.ErrStacksForm, wrong, wrong)
		wantNone(t, q, bounds)
		wantPush(t, q, api.OK, b, a, b)
		wantPop(t, q, b)
		wantPush(t, q, api.OK, a)
		wantPush(t, q, api.ErrStacksForm, wrong, wrong)
		wantPops(t, q, bounds, a, b, a)
	}
}

// TestSeries: another series is refused as long as one that is not empty is there, ahead or behind; empty ones are of no series.
func TestSeries(t *testing.T) {
	three, four, empty := whole(3, 2), whole(4, 5), joined(t, nil)
	q := made(t, nil)
	wantPush(t, q, api.OK, empty, three, empty)
	wantPush(t, q, api.ErrStacksForm, four)
	wantPop(t, q, empty)
	wantPush(t, q, api.ErrStacksForm, four)
	wantPush(t, q, api.OK, three)
	wantPop(t, q, three)
	wantPush(t, q, api.ErrStacksForm, four)
	wantPop(t, q, empty)
	wantPush(t, q, api.ErrStacksForm, four)
	wantPush(t, q, api.OK, empty)
	wantPop(t, q, three)
	wantPush(t, q, api.OK, four)
	wantPush(t, q, api.ErrStacksForm, three)
	wantPops(t, q, nil, empty, four)
	wantPush(t, q, api.OK, three)
	wantPops(t, q, nil, three)
}

// TestTooManyItems: together there are at most MaxItems, wherever in the row they stand.
func TestTooManyItems(t *testing.T) {
	q := made(t, nil)
	all, most, two, last, empty := whole(3, api.MaxItems), whole(3, api.MaxItems-1), whole(3, 2), whole(3, 1), joined(t, nil)
	wantPush(t, q, api.OK, most)
	wantPush(t, q, api.ErrStacksForm, all, most, two)
	wantPush(t, q, api.OK, last, empty, empty)
	wantPush(t, q, api.ErrStacksForm, last, two, most, all)
	wantRow(t, q, nil, most, last, empty, empty)
	wantPop(t, q, most)
	wantPush(t, q, api.ErrStacksForm, all)
	wantPush(t, q, api.OK, most)
	wantPush(t, q, api.ErrStacksForm, last)
	wantPop(t, q, last)
	wantPush(t, q, api.ErrStacksForm, two)
	wantPush(t, q, api.OK, empty, last)
	wantPush(t, q, api.ErrStacksForm, last)
	wantPops(t, q, nil, empty, empty, most, empty, last)
	wantPush(t, q, api.OK, all)
	wantPush(t, q, api.ErrStacksForm, last)
	wantPush(t, q, api.OK, empty)
	wantPops(t, q, nil, all, empty)
}

// TestLimits: aggregates at the limits of their numbers are summed.
func TestLimits(t *testing.T) {
	low := api.Item{Time: -api.MaxTime, Seq: api.MaxSeq, Value: -api.MaxValue, Series: api.MaxId}
	high := api.Item{Time: api.MaxTime, Seq: 1, Value: api.MaxValue, Series: api.MaxId}
	half := api.MaxItems / 2
	a := api.Acc{Count: half, Sum: -half * api.MaxValue, Min: low.Value, Max: low.Value, First: low, Last: low, Hist: []int{half, 0}}
	b := api.Acc{Count: half, Sum: half * api.MaxValue, Min: high.Value, Max: high.Value, First: high, Last: high, Hist: []int{0, half}}
	q := made(t, []int{0})
	wantPush(t, q, api.OK, b, a)
	want := api.Acc{Count: api.MaxItems, Min: low.Value, Max: high.Value, First: low, Last: high, Hist: []int{half, half}}
	if got := q.Total(); !reflect.DeepEqual(got, want) {
		t.Errorf("P17.1: Total: %v; want %v", got, want)
	}
	wantPop(t, q, b)
	wantPush(t, q, api.OK, a)
	want = api.Acc{Count: api.MaxItems, Sum: -api.MaxItems * api.MaxValue, Min: low.Value, Max: low.Value, First: low, Last: low, Hist: []int{api.MaxItems, 0}}
	if got := q.Total(); !reflect.DeepEqual(got, want) {
		t.Errorf("P17.1: Total: %v; want %v", got, want)
	}
	wantPops(t, q, []int{0}, a, a)
}

// TestEmpties: empty ones are each in the row, as many as come.
func TestEmpties(t *testing.T) {
	bounds := []int{-1, 1}
	empty := joined(t, bounds)
	q := made(t, bounds)
	for n := range 5 {
		row := slices.Repeat([]api.Acc{empty}, n)
		wantPush(t, q, api.OK, row...)
		wantPops(t, q, bounds, row...)
	}
	long := 3 * api.MaxItems
	for range long {
		wantPush(t, q, api.OK, empty)
	}
	for n := range long {
		if q.Len() != long-n {
			t.Fatalf("P17.1: Len: %d; want %d", q.Len(), long-n)
		}
		wantPop(t, q, empty)
	}
	wantNone(t, q, bounds)
}

// TestAsks: what is asked for takes nothing away (R5).
func TestAsks(t *testing.T) {
	q := made(t, nil)
	for range 3 {
		wantNone(t, q, nil)
	}
	a, b := whole(3, 2), whole(3, 5)
	wantPush(t, q, api.OK, a, b)
	for range 4 {
		wantRow(t, q, nil, a, b)
	}
	wantPop(t, q, a)
	for range 4 {
		wantRow(t, q, nil, b)
	}
	wantPops(t, q, nil, b)
	for range 3 {
		wantNone(t, q, nil)
	}
}

// TestMany: as many items as there may be, each alone, moved on for a long time: no call walks through the row, but the one that turns it.
func TestMany(t *testing.T) {
	bounds := []int{-10, 0, 10}
	at := func(i int) api.Acc {
		return one(t, bounds, api.Item{Series: 3, Time: i, Seq: 1 + i%7, Value: i%41 - 20})
	}
	q := made(t, bounds)
	for i := range api.MaxItems {
		wantPush(t, q, api.OK, at(i))
	}
	wantPush(t, q, api.ErrStacksForm, at(0))
	for i := range 100000 {
		wantPop(t, q, at(i))
		wantPush(t, q, api.OK, at(i+api.MaxItems))
		got := q.Total()
		if q.Len() != api.MaxItems || got.Count != api.MaxItems || got.First != at(i+1).First || got.Last != at(i+api.MaxItems).Last {
			t.Fatalf("P17.1: Total: %v, Len %d, behind %d that are gone", got, q.Len(), i+1)
		}
	}
	var row []api.Acc
	for i := range api.MaxItems {
		row = append(row, at(100000+i))
	}
	wantRow(t, q, bounds, row...)
	for _, a := range row {
		wantPop(t, q, a)
	}
	wantNone(t, q, bounds)
}

// TestHandedIn: what is handed in is not changed, its spare room neither, and not kept (R4).
func TestHandedIn(t *testing.T) {
	bounds := []int{0, 10, 77, 78}
	q := made(t, bounds[:2])
	if !slices.Equal(bounds, []int{0, 10, 77, 78}) {
		t.Errorf("R4: the bounds changed to %v", bounds)
	}
	clear(bounds)
	hist := []int{0, 1, 0, 55, 66}
	a := one(t, []int{0, 10}, api.Item{Series: 3, Seq: 1, Value: 5})
	was := copied(a)
	a.Hist = hist[:3]
	wantPush(t, q, api.OK, a, a)
	wantPop(t, q, was)
	wantPush(t, q, api.OK, a)
	wantPush(t, q, api.ErrStacksForm, whole(3, 1))
	q.Total()
	if !slices.Equal(hist, []int{0, 1, 0, 55, 66}) {
		t.Errorf("R4: the Hist changed to %v", hist)
	}
	clear(hist)
	wantPops(t, q, []int{0, 10}, was, was)
}

// TestAnswered: what is answered shares no memory with the queue, nor with another answer (R4).
func TestAnswered(t *testing.T) {
	bounds := []int{0}
	a := one(t, bounds, api.Item{Series: 3, Seq: 1, Value: 5})
	b := one(t, bounds, api.Item{Series: 3, Seq: 2, Value: -5})
	for _, row := range [][]api.Acc{{}, {a}, {a, b}, {b, a, a}} {
		for gone := range len(row) + 1 {
			q := made(t, bounds)
			wantPush(t, q, api.OK, row...)
			for i := range gone {
				got, _ := q.Pop()
				total := q.Total()
				spoil(got.Hist)
				wantRow(t, q, bounds, row[i+1:]...)
				if want := joined(t, bounds, row[i+1:]...); !reflect.DeepEqual(total, want) {
					t.Fatalf("R4: a Total changed to %v; want %v", total, want)
				}
			}
			first, second := q.Total(), q.Total()
			spoil(first.Hist)
			if want := joined(t, bounds, row[gone:]...); !reflect.DeepEqual(second, want) {
				t.Fatalf("R4: a Total changed to %v; want %v", second, want)
			}
			spoil(second.Hist)
			wantRow(t, q, bounds, row[gone:]...)
			wantPush(t, q, api.OK, b)
			spoil(q.Total().Hist)
			wantPops(t, q, bounds, append(slices.Clone(row[gone:]), b)...)
		}
	}
}

// spoil changes each number of hist, and of its spare room.
func spoil(hist []int) {
	hist = hist[:cap(hist)]
	for i := range hist {
		hist[i] += 1000
	}
}

// TestNil: no queue answers ErrNil, ahead of all else, and zero values (R3).
func TestNil(t *testing.T) {
	var q *stacks.Queue
	wantPush(t, q, api.ErrNil, whole(3, 1), joined(t, nil))
	wantPush(t, q, api.ErrNil, wrongs()...)
	if a, e := q.Pop(); !reflect.DeepEqual(a, api.Acc{}) || e != api.ErrNil {
		t.Errorf("R3: Pop: %v, error %d", a, e)
	}
	if a := q.Total(); !reflect.DeepEqual(a, api.Acc{}) || q.Len() != 0 {
		t.Errorf("R3: Total: %v, Len: %d", a, q.Len())
	}
}

// TestNotMade: one that New did not make is as one with no bounds, and does not panic (R1).
func TestNotMade(t *testing.T) {
	var q stacks.Queue
	wantNone(t, &q, nil)
	a, b := whole(3, 4), whole(3, 1)
	wantPush(t, &q, api.OK, a, b)
	wantPush(t, &q, api.ErrStacksForm, whole(4, 1), api.Acc{}, one(t, []int{0}, api.Item{Series: 3, Seq: 1}))
	wantPops(t, &q, nil, a, b)
}

// TestApart: queues keep nothing together (R5).
func TestApart(t *testing.T) {
	x, y := made(t, nil), made(t, nil)
	a, b := whole(3, 4), whole(4, 1)
	wantPush(t, x, api.OK, a)
	wantNone(t, y, nil)
	wantPush(t, y, api.OK, b, b)
	wantPush(t, x, api.ErrStacksForm, b)
	wantPops(t, x, nil, a)
	wantPops(t, y, nil, b, b)
	wantNone(t, made(t, nil), nil)
}

// TestTogether: queues of several goroutines, made by a plain function of the same bounds, at one time (R5).
func TestTogether(t *testing.T) {
	bounds := []int{0, 10}
	a := one(t, bounds, api.Item{Series: 3, Seq: 1, Value: 5})
	var all sync.WaitGroup
	for range 8 {
		all.Go(func() {
			q, e := stacks.New(bounds)
			if e != api.OK {
				t.Errorf("P17.1: New: error %d", e)
				return
			}
			for n := range 200 {
				if e := q.Push(a); e != api.OK {
					t.Errorf("P17.1: Push: error %d", e)
				}
				if n%3 == 2 {
					if got, e := q.Pop(); e != api.OK || !reflect.DeepEqual(got, a) {
						t.Errorf("P17.1: Pop: %v, error %d", got, e)
					}
				}
				if got, want := q.Total().Count, n+1-(n+1)/3; got != want || q.Len() != want {
					t.Errorf("P17.1: Total of %d, Len %d; want %d", got, q.Len(), want)
				}
			}
		})
	}
	all.Wait()
}
