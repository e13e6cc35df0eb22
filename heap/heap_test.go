package heap_test

import (
	"math"
	"slices"
	"sync"
	"testing"

	"bourne/api"
	"bourne/heap"
)

// wrongItems are none: each has one number beyond its limits.
var wrongItems = []api.Item{
	{},
	{Seq: -1}, {Seq: api.MaxSeq + 1}, {Seq: math.MinInt}, {Seq: math.MaxInt},
	{Series: -1, Seq: 1}, {Series: api.MaxId + 1, Seq: 1}, {Series: math.MinInt, Seq: 1}, {Series: math.MaxInt, Seq: 1},
	{Time: -api.MaxTime - 1, Seq: 1}, {Time: api.MaxTime + 1, Seq: 1}, {Time: math.MinInt, Seq: 1}, {Time: math.MaxInt, Seq: 1},
	{Seq: 1, Value: -api.MaxValue - 1}, {Seq: 1, Value: api.MaxValue + 1}, {Seq: 1, Value: math.MinInt}, {Seq: 1, Value: math.MaxInt},
}

// rising are items in the row in which they stand: each of the four numbers tells where all ahead of it are alike, and has its limits.
var rising = []api.Item{
	{Series: api.MaxId, Time: -api.MaxTime, Seq: api.MaxSeq, Value: api.MaxValue},
	{Series: 4, Time: -3, Seq: 9, Value: 9},
	{Series: 9, Time: 0, Seq: 1, Value: 7},
	{Series: 3, Time: 0, Seq: 2, Value: 9},
	{Series: 5, Time: 0, Seq: 2, Value: -api.MaxValue},
	{Series: 5, Time: 0, Seq: 2, Value: -1},
	{Series: 5, Time: 0, Seq: 2, Value: 0},
	{Series: 5, Time: 0, Seq: 2, Value: api.MaxValue},
	{Series: api.MaxId, Time: 0, Seq: 2, Value: -8},
	{Series: 0, Time: 0, Seq: api.MaxSeq, Value: -9},
	{Series: 0, Time: 1, Seq: 1, Value: -api.MaxValue},
	{Series: 0, Time: api.MaxTime, Seq: 1, Value: -api.MaxValue},
}

// numbers is a row of numbers that looks like none.
type numbers uint32

// next gives one from 0 to below n.
func (s *numbers) next(n int) int {
	*s = *s*1664525 + 1013904223
	return int(*s>>8) % n
}

// item gives one of few, so that many are alike in some numbers.
func (s *numbers) item() api.Item {
	return api.Item{Series: s.next(2), Time: s.next(5) - 2, Seq: 1 + s.next(3), Value: s.next(3) - 1}
}

// items gives so many of few.
func (s *numbers) items(n int) []api.Item {
	out := make([]api.Item, n)
	for i := range out {
		out[i] = s.item()
	}
	return out
}

// behind tells whether x stands behind y, told without what the package or its helpers compare by.
func behind(x api.Item, y api.Item) bool {
	a, b := [4]int{x.Time, x.Seq, x.Series, x.Value}, [4]int{y.Time, y.Seq, y.Series, y.Value}
	for i := range a {
		if a[i] != b[i] {
			return a[i] > b[i]
		}
	}
	return false
}

// put puts x into a row of items, behind those that it does not stand ahead of.
func put(row []api.Item, x api.Item) []api.Item {
	at := len(row)
	for at > 0 && behind(row[at-1], x) {
		at--
	}
	return slices.Insert(row, at, x)
}

// made gives a heap of at most so many items.
func made(t *testing.T, most int) *heap.Heap {
	t.Helper()
	h, e := heap.New(most)
	if e != api.OK || h == nil {
		t.Fatalf("P15.1: New(%d): error %d", most, e)
	}
	return h
}

// wantPush holds what Push answers against want.
func wantPush(t *testing.T, h *heap.Heap, want api.Errno, xs ...api.Item) {
	t.Helper()
	if e := h.Push(xs...); e != want {
		t.Fatalf("P15.1: Push of %d items: error %d; want %d", len(xs), e, want)
	}
}

// wantNone holds a heap to be empty.
func wantNone(t *testing.T, h *heap.Heap) {
	t.Helper()
	if h.Len() != 0 {
		t.Fatalf("P15.1: Len: %d; want none", h.Len())
	}
	if x, e := h.Peek(); x != (api.Item{}) || e != api.ErrHeapNone {
		t.Fatalf("P15.1: Peek: %v, error %d; want none, error %d", x, e, api.ErrHeapNone)
	}
	if x, e := h.Pop(); x != (api.Item{}) || e != api.ErrHeapNone {
		t.Fatalf("P15.1: Pop: %v, error %d; want none, error %d", x, e, api.ErrHeapNone)
	}
}

// wantLeast holds the least item and how many there are against want, which is in its row.
func wantLeast(t *testing.T, h *heap.Heap, want ...api.Item) {
	t.Helper()
	if len(want) == 0 {
		wantNone(t, h)
		return
	}
	if h.Len() != len(want) {
		t.Fatalf("P15.1: Len: %d; want %d", h.Len(), len(want))
	}
	if x, e := h.Peek(); x != want[0] || e != api.OK {
		t.Fatalf("P15.1: Peek: %v, error %d; want %v", x, e, want[0])
	}
}

// wantPops takes all items out and holds them against want, which is in its row.
func wantPops(t *testing.T, h *heap.Heap, want ...api.Item) {
	t.Helper()
	for i := range want {
		wantLeast(t, h, want[i:]...)
		if x, e := h.Pop(); x != want[i] || e != api.OK {
			t.Fatalf("P15.1: Pop: %v, error %d; want %v, the one of place %d", x, e, want[i], i)
		}
	}
	wantNone(t, h)
}

// eachRow hands each row of xs to use, all of one row in one list.
func eachRow(xs []api.Item, at int, use func([]api.Item)) {
	if at == len(xs) {
		use(xs)
		return
	}
	for i := at; i < len(xs); i++ {
		xs[at], xs[i] = xs[i], xs[at]
		eachRow(xs, at+1, use)
		xs[at], xs[i] = xs[i], xs[at]
	}
}

func TestNew(t *testing.T) {
	for _, most := range []int{1, 2, 3, 7, 8, 9, 100, api.MaxRoom, api.MaxItems - 1, api.MaxItems} {
		wantNone(t, made(t, most))
	}
	for _, most := range []int{0, -1, -2, -api.MaxItems, api.MaxItems + 1, api.MaxItems + 2, 2 * api.MaxItems, math.MaxInt, math.MinInt} {
		if h, e := heap.New(most); h != nil || e != api.ErrHeapForm {
			t.Errorf("P15.1: New(%d): %v, error %d; want none, error %d", most, h, e, api.ErrHeapForm)
		}
	}
}

func TestByHand(t *testing.T) {
	h := made(t, 4)
	a, b, c, d := api.Item{Time: 5, Seq: 1}, api.Item{Time: -2, Seq: 2}, api.Item{Time: 5, Seq: 3}, api.Item{Time: 0, Seq: 4}
	wantPush(t, h, api.OK, a)
	wantLeast(t, h, a)
	wantPush(t, h, api.OK, c, b)
	wantLeast(t, h, b, a, c)
	wantPush(t, h, api.ErrHeapFull, d, d)
	wantPush(t, h, api.OK, d)
	wantPush(t, h, api.ErrHeapFull, b)
	wantPops(t, h, b, d, a, c)
	wantPush(t, h, api.OK, d, a)
	wantPops(t, h, d, a)
}

// TestEachTwo: of any two the one that stands ahead comes first, whichever was put in first.
func TestEachTwo(t *testing.T) {
	for i, x := range rising {
		for _, y := range rising[i:] {
			for _, row := range [][]api.Item{{x, y}, {y, x}} {
				h := made(t, 2)
				wantPush(t, h, api.OK, row...)
				wantPops(t, h, x, y)
				wantPush(t, h, api.OK, row[0])
				wantPush(t, h, api.OK, row[1])
				wantPops(t, h, x, y)
			}
		}
	}
}

// TestEachRow: seven items, three of which are one and the same, in each row.
func TestEachRow(t *testing.T) {
	for _, want := range [][]api.Item{
		rising[3:10],
		{rising[1], rising[2], rising[2], rising[2], rising[5], rising[8], rising[9]},
		{rising[4], rising[5], rising[6], rising[6], rising[6], rising[6], rising[7]},
	} {
		eachRow(slices.Clone(want), 0, func(xs []api.Item) {
			h := made(t, 7)
			wantPush(t, h, api.OK, xs...)
			wantPops(t, h, want...)
		})
	}
}

// TestEachLength: of each number of items all come, in their row, however many were put in at one time.
func TestEachLength(t *testing.T) {
	s := numbers(3)
	for n := range 130 {
		xs := s.items(n)
		var want []api.Item
		for _, x := range xs {
			want = put(want, x)
		}
		for _, piece := range []int{1, 2, 5, n + 1} {
			h := made(t, n+1)
			for part := range slices.Chunk(xs, piece) {
				wantPush(t, h, api.OK, part...)
			}
			wantPops(t, h, want...)
		}
	}
}

// TestAlike: items that are one and the same are each in it.
func TestAlike(t *testing.T) {
	x := api.Item{Series: 2, Time: 3, Seq: 4, Value: 5}
	h := made(t, 20)
	xs := slices.Repeat([]api.Item{x}, 20)
	wantPush(t, h, api.OK, xs...)
	wantPush(t, h, api.ErrHeapFull, x)
	wantPops(t, h, xs...)
}

// TestFull: of each most just so many are taken; then none until one is gone, and of too many not even those that would fit.
func TestFull(t *testing.T) {
	for _, most := range []int{1, 2, 3, 4, 5, 31, 32, 33, api.MaxItems - 1, api.MaxItems} {
		h := made(t, most)
		want := make([]api.Item, most)
		for i := range want {
			want[i] = api.Item{Time: i, Seq: 1}
		}
		ahead := api.Item{Time: -1, Seq: 1}
		wantPush(t, h, api.ErrHeapFull, append(slices.Clone(want), ahead)...)
		wantNone(t, h)
		wantPush(t, h, api.OK, want[1:]...)
		wantPush(t, h, api.ErrHeapFull, ahead, ahead)
		wantLeast(t, h, want[1:]...)
		wantPush(t, h, api.OK, want[0])
		for range 3 {
			wantPush(t, h, api.ErrHeapFull, ahead)
			wantPush(t, h, api.OK)
			wantLeast(t, h, want...)
		}
		if x, e := h.Pop(); x != want[0] || e != api.OK {
			t.Fatalf("P15.1: Pop: %v, error %d", x, e)
		}
		wantPush(t, h, api.ErrHeapFull, ahead, ahead)
		wantPush(t, h, api.OK, ahead)
		wantPush(t, h, api.ErrHeapFull, ahead)
		want[0] = ahead
		wantPops(t, h, want...)
	}
}

// TestWrongItems: with one of them none is put in, wherever it stands, also where there would be too many (R6).
func TestWrongItems(t *testing.T) {
	for _, wrong := range wrongItems {
		h := made(t, 3)
		good := api.Item{Time: 1, Seq: 1}
		ahead := api.Item{Time: -1, Seq: 1}
		wantPush(t, h, api.ErrHeapForm, wrong)
		wantNone(t, h)
		wantPush(t, h, api.OK, good)
		for n := range 6 {
			for at := range n + 1 {
				xs := slices.Insert(slices.Repeat([]api.Item{ahead}, n), at, wrong)
				wantPush(t, h, api.ErrHeapForm, xs...)
				wantLeast(t, h, good)
			}
		}
		wantPush(t, h, api.OK, good, ahead)
		wantPush(t, h, api.ErrHeapForm, wrong)
		wantPush(t, h, api.ErrHeapForm, ahead, wrong)
		wantPops(t, h, ahead, good, good)
	}
}

// TestLimits: items at the limits of their numbers may be.
func TestLimits(t *testing.T) {
	h := made(t, 16)
	var want []api.Item
	for i := range 16 {
		x := api.Item{Series: (i & 1) * api.MaxId, Time: -api.MaxTime, Seq: 1, Value: -api.MaxValue}
		if i&2 != 0 {
			x.Time = api.MaxTime
		}
		if i&4 != 0 {
			x.Seq = api.MaxSeq
		}
		if i&8 != 0 {
			x.Value = api.MaxValue
		}
		wantPush(t, h, api.OK, x)
		want = put(want, x)
	}
	wantPops(t, h, want...)
}

// TestNoItems: nothing put in is OK, and changes nothing.
func TestNoItems(t *testing.T) {
	h := made(t, 1)
	wantPush(t, h, api.OK)
	wantPush(t, h, api.OK, []api.Item{}...)
	wantNone(t, h)
	wantPush(t, h, api.OK, rising[1])
	wantPush(t, h, api.OK)
	wantPops(t, h, rising[1])
	wantPush(t, h, api.OK)
	wantNone(t, h)
}

// TestAsks: what is asked for takes nothing away, and what was refused leaves nothing behind (R5).
func TestAsks(t *testing.T) {
	h := made(t, 3)
	for range 3 {
		wantNone(t, h)
	}
	wantPush(t, h, api.OK, rising[4], rising[2], rising[3])
	for range 5 {
		wantLeast(t, h, rising[2], rising[3], rising[4])
	}
	wantPops(t, h, rising[2], rising[3], rising[4])
	for range 3 {
		wantNone(t, h)
	}
	wantPush(t, h, api.OK, rising[5])
	wantPops(t, h, rising[5])
}

// TestAgainstARow: many calls, held against a plain row.
func TestAgainstARow(t *testing.T) {
	s := numbers(5)
	for range 400 {
		most := 1 + s.next(60)
		h := made(t, most)
		var row []api.Item
		for range 100 {
			switch s.next(3) {
			case 0:
				if len(row) == 0 {
					wantNone(t, h)
					continue
				}
				if x, e := h.Pop(); x != row[0] || e != api.OK {
					t.Fatalf("P15.1: Pop: %v, error %d; want %v", x, e, row[0])
				}
				row = row[1:]
			default:
				xs := s.items(s.next(5))
				wrong := len(xs) > 0 && s.next(8) == 0
				if wrong {
					xs[s.next(len(xs))] = wrongItems[s.next(len(wrongItems))]
				}
				switch {
				case wrong:
					wantPush(t, h, api.ErrHeapForm, xs...)
				case len(row)+len(xs) > most:
					wantPush(t, h, api.ErrHeapFull, xs...)
				default:
					wantPush(t, h, api.OK, xs...)
					for _, x := range xs {
						row = put(row, x)
					}
				}
			}
			wantLeast(t, h, row...)
		}
		wantPops(t, h, row...)
	}
}

// TestMany: as many as there may be, in rows that are rising, falling, mixed and all alike, and a long time so full.
func TestMany(t *testing.T) {
	want := make([]api.Item, api.MaxItems)
	for i := range want {
		want[i] = api.Item{Time: i / 3, Seq: 1 + i%3, Value: -i}
	}
	falling := slices.Clone(want)
	slices.Reverse(falling)
	mixed := make([]api.Item, api.MaxItems)
	for i := range mixed {
		mixed[i] = want[i*3559%api.MaxItems]
	}
	for _, row := range [][]api.Item{want, falling, mixed} {
		h := made(t, api.MaxItems)
		wantPush(t, h, api.OK, row...)
		wantPops(t, h, want...)
	}
	h := made(t, api.MaxItems)
	wantPush(t, h, api.OK, mixed...)
	for i := range 300000 {
		x, e := h.Pop()
		if e != api.OK || x.Time != i/3 {
			t.Fatalf("P15.1: Pop: %v, error %d; want Time %d", x, e, i/3)
		}
		next := i + api.MaxItems
		wantPush(t, h, api.OK, api.Item{Time: next / 3, Seq: 1 + next%3, Value: -next})
	}
}

// TestTooMany: a list far longer than there is room for is refused, and only after all of it was looked at.
func TestTooMany(t *testing.T) {
	xs := slices.Repeat([]api.Item{rising[1]}, 1<<20)
	h := made(t, api.MaxItems)
	wantPush(t, h, api.ErrHeapFull, xs...)
	wantNone(t, h)
	xs[len(xs)-1].Seq = 0
	wantPush(t, h, api.ErrHeapForm, xs...)
	wantNone(t, h)
}

// TestSharesNoMemory: what is handed in is not changed, its spare room neither, and not kept (R4).
func TestSharesNoMemory(t *testing.T) {
	all := slices.Clone(rising)
	slices.Reverse(all)
	was := slices.Clone(all)
	h := made(t, 20)
	wantPush(t, h, api.OK, all[:6]...)
	wantPush(t, h, api.OK, all[6:9]...)
	wantPush(t, h, api.ErrHeapFull, slices.Repeat(all, 2)...)
	wantPush(t, h, api.OK, rising[0])
	if x, e := h.Pop(); x != rising[0] || e != api.OK {
		t.Fatalf("P15.1: Pop: %v, error %d", x, e)
	}
	if !slices.Equal(all, was) {
		t.Errorf("R4: what was handed in changed to %v", all)
	}
	clear(all)
	wantPops(t, h, rising[3:]...)
}

// TestNil: no heap answers ErrNil, ahead of all else, and zero values (R3).
func TestNil(t *testing.T) {
	var h *heap.Heap
	wantPush(t, h, api.ErrNil)
	wantPush(t, h, api.ErrNil, rising...)
	for _, wrong := range wrongItems {
		wantPush(t, h, api.ErrNil, wrong)
	}
	if x, e := h.Peek(); x != (api.Item{}) || e != api.ErrNil {
		t.Errorf("R3: Peek: %v, error %d", x, e)
	}
	if x, e := h.Pop(); x != (api.Item{}) || e != api.ErrNil {
		t.Errorf("R3: Pop: %v, error %d", x, e)
	}
	if h.Len() != 0 {
		t.Errorf("R3: Len: %d", h.Len())
	}
}

// TestNotMade: one that New did not make has room for none, and does not panic (R1).
func TestNotMade(t *testing.T) {
	var h heap.Heap
	wantNone(t, &h)
	wantPush(t, &h, api.OK)
	wantPush(t, &h, api.ErrHeapFull, rising[1])
	wantPush(t, &h, api.ErrHeapForm, api.Item{})
	wantNone(t, &h)
}

// TestApart: heaps keep nothing together (R5).
func TestApart(t *testing.T) {
	x, y := made(t, 1), made(t, 2)
	wantPush(t, x, api.OK, rising[5])
	wantNone(t, y)
	wantPush(t, y, api.OK, rising[6], rising[4])
	wantPush(t, x, api.ErrHeapFull, rising[1])
	wantPops(t, x, rising[5])
	wantPops(t, y, rising[4], rising[6])
	wantNone(t, made(t, 1))
}

// TestTogether: heaps of several goroutines, made by a plain function, at one time (R5).
func TestTogether(t *testing.T) {
	var all sync.WaitGroup
	for i := range 8 {
		all.Go(func() {
			h, e := heap.New(40)
			if e != api.OK {
				t.Errorf("P15.1: New(40): error %d", e)
				return
			}
			for n := range 40 {
				if e := h.Push(api.Item{Time: n * 7 % 40, Seq: 1 + i}); e != api.OK {
					t.Errorf("P15.1: Push: error %d", e)
				}
			}
			for n := range 40 {
				if x, e := h.Pop(); x != (api.Item{Time: n, Seq: 1 + i}) || e != api.OK {
					t.Errorf("P15.1: Pop: %v, error %d; want Time %d", x, e, n)
				}
			}
		})
	}
	all.Wait()
}
