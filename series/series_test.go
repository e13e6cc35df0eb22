package series_test

import (
	"math"
	"slices"
	"sync"
	"testing"

	"bourne/api"
	"bourne/series"
)

// wrongIds are none of a series.
var wrongIds = []int{-1, -2, -api.MaxId, api.MaxId + 1, api.MaxId + 2, 2*api.MaxId + 2, math.MaxInt, math.MinInt}

// made gives a registry of at most so many series.
func made(t *testing.T, most int) *series.Registry {
	t.Helper()
	r, e := series.New(most)
	if e != api.OK || r == nil {
		t.Fatalf("P12.1: New(%d): error %d", most, e)
	}
	return r
}

// wantAdd holds what Add answers against want.
func wantAdd(t *testing.T, r *series.Registry, id int, want api.Errno) {
	t.Helper()
	if e := r.Add(id); e != want {
		t.Errorf("P12.1: Add(%d): error %d; want %d", id, e, want)
	}
}

// wantRow holds which series are there against want, and that no others are: neither those about them nor wrong ones.
func wantRow(t *testing.T, r *series.Registry, want ...int) {
	t.Helper()
	if got := r.Ids(); !slices.Equal(got, want) {
		t.Errorf("P12.1: Ids: %v; want %v", got, want)
	}
	near := slices.Concat(wrongIds, []int{0, 1, api.MaxId - 1, api.MaxId})
	for _, id := range want {
		near = append(near, id-1, id, id+1)
	}
	for _, id := range near {
		if got := r.Has(id); got != slices.Contains(want, id) {
			t.Errorf("P12.1: Has(%d): %v, of %v", id, got, want)
		}
	}
}

func TestNew(t *testing.T) {
	for most := 1; most <= api.MaxSeries; most++ {
		wantRow(t, made(t, most))
	}
	for _, most := range []int{0, -1, -2, -api.MaxSeries, api.MaxSeries + 1, api.MaxSeries + 2, 2 * api.MaxSeries, math.MaxInt, math.MinInt} {
		if r, e := series.New(most); r != nil || e != api.ErrSeriesForm {
			t.Errorf("P12.1: New(%d): %v, error %d; want none, error %d", most, r, e, api.ErrSeriesForm)
		}
	}
}

// TestAddsBehind: each new one is the last one, whatever its number; one that is there stays where it is.
func TestAddsBehind(t *testing.T) {
	r := made(t, 6)
	var row []int
	for _, id := range []int{7, 3, api.MaxId, 0, 5, 4} {
		wantAdd(t, r, id, api.OK)
		row = append(row, id)
		wantRow(t, r, row...)
		for _, again := range row {
			wantAdd(t, r, again, api.OK)
			wantRow(t, r, row...)
		}
	}
}

// TestFull: of each most just so many are taken; then one that is there is still OK, and nothing changes.
func TestFull(t *testing.T) {
	for most := 1; most <= api.MaxSeries; most++ {
		r := made(t, most)
		var row []int
		for i := range most {
			id := (i*389 + 11) % (api.MaxId + 1)
			wantAdd(t, r, id, api.OK)
			row = append(row, id)
		}
		for range 3 {
			for _, id := range []int{0, 1, 10, 12, api.MaxId} {
				wantAdd(t, r, id, api.ErrSeriesFull)
			}
			for _, id := range row {
				wantAdd(t, r, id, api.OK)
			}
			wantRow(t, r, row...)
		}
	}
}

// TestWrongIds: none of them is there ever, also where it is full (R6), and those that came stay (R5).
func TestWrongIds(t *testing.T) {
	r := made(t, 2)
	var row []int
	for _, id := range []int{api.MaxId, 0} {
		for _, wrong := range wrongIds {
			wantAdd(t, r, wrong, api.ErrSeriesForm)
		}
		wantRow(t, r, row...)
		wantAdd(t, r, id, api.OK)
		row = append(row, id)
	}
	for _, wrong := range wrongIds {
		wantAdd(t, r, wrong, api.ErrSeriesForm)
	}
	wantAdd(t, r, 1, api.ErrSeriesFull)
	wantRow(t, r, row...)
}

// TestRefusedTakesNoRoom: as many come as if none had been refused.
func TestRefusedTakesNoRoom(t *testing.T) {
	r := made(t, 3)
	for i := range 3 {
		wantAdd(t, r, -1, api.ErrSeriesForm)
		wantAdd(t, r, api.MaxId+1, api.ErrSeriesForm)
		wantAdd(t, r, 2-i, api.OK)
		wantAdd(t, r, 2-i, api.OK)
	}
	wantAdd(t, r, 3, api.ErrSeriesFull)
	wantRow(t, r, 2, 1, 0)
}

// TestAsks: a series that is asked for is not there of that.
func TestAsks(t *testing.T) {
	r := made(t, 1)
	for range 3 {
		if r.Has(4) || len(r.Ids()) != 0 {
			t.Fatal("P12.1: one is there that was not added")
		}
	}
	wantAdd(t, r, 5, api.OK)
	wantRow(t, r, 5)
}

// TestAgainstAList: many calls, held against a plain list.
func TestAgainstAList(t *testing.T) {
	seed := uint32(1)
	next := func(n int) int {
		seed = seed*1664525 + 1013904223
		return int(seed>>8) % n
	}
	for range 200 {
		most := 1 + next(api.MaxSeries)
		r := made(t, most)
		var row []int
		for range 150 {
			id := next(90) - 2
			want := api.OK
			switch {
			case id < 0:
				want = api.ErrSeriesForm
			case slices.Contains(row, id):
			case len(row) == most:
				want = api.ErrSeriesFull
			default:
				row = append(row, id)
			}
			wantAdd(t, r, id, want)
		}
		wantRow(t, r, row...)
	}
}

// TestSharesNoMemory: a list that was answered is the caller's, its spare room too (R4).
func TestSharesNoMemory(t *testing.T) {
	r := made(t, 8)
	var row []int
	for id := range 8 {
		ahead, other := r.Ids(), r.Ids()
		wantAdd(t, r, id, api.OK)
		row = append(row, id)
		longer := append(ahead, 77)
		for i := range ahead {
			ahead[i], longer[i] = -9, -9
		}
		if !slices.Equal(other, row[:id]) {
			t.Errorf("R4: an answer changed to %v", other)
		}
		wantRow(t, r, row...)
	}
}

// TestNil: no registry answers ErrNil, ahead of all else, and zero values (R3).
func TestNil(t *testing.T) {
	var r *series.Registry
	for _, id := range slices.Concat(wrongIds, []int{0, 1, api.MaxId}) {
		if e := r.Add(id); e != api.ErrNil {
			t.Errorf("R3: Add(%d): error %d; want %d", id, e, api.ErrNil)
		}
		if r.Has(id) {
			t.Errorf("R3: Has(%d)", id)
		}
	}
	if got := r.Ids(); got != nil {
		t.Errorf("R3: Ids: %v", got)
	}
}

// TestNotMade: one that New did not make has room for none, and does not panic (R1).
func TestNotMade(t *testing.T) {
	var r series.Registry
	wantAdd(t, &r, 1, api.ErrSeriesFull)
	wantAdd(t, &r, -1, api.ErrSeriesForm)
	wantRow(t, &r)
}

// TestApart: registries keep nothing together (R5).
func TestApart(t *testing.T) {
	x, y := made(t, 1), made(t, 2)
	wantAdd(t, x, 5, api.OK)
	wantRow(t, y)
	wantAdd(t, y, 6, api.OK)
	wantAdd(t, x, 6, api.ErrSeriesFull)
	wantAdd(t, y, 5, api.OK)
	wantRow(t, x, 5)
	wantRow(t, y, 6, 5)
	wantRow(t, made(t, 1))
}

// TestTogether: registries of several goroutines, made by a plain function, at one time (R5).
func TestTogether(t *testing.T) {
	var all sync.WaitGroup
	for i := range 8 {
		all.Go(func() {
			r, e := series.New(8 + i)
			if e != api.OK {
				t.Errorf("P12.1: New(%d): error %d", 8+i, e)
				return
			}
			var row []int
			for id := range 8 + i {
				wantAdd(t, r, i+id*9, api.OK)
				row = append(row, i+id*9)
			}
			wantAdd(t, r, 8, api.ErrSeriesFull)
			wantRow(t, r, row...)
		})
	}
	all.Wait()
}
