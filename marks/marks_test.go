package marks_test

import (
	"math"
	"slices"
	"sync"
	"testing"

	"bourne/api"
	"bourne/marks"
)

// wrongTimes are none of a mark.
var wrongTimes = []int{api.NoMark, api.NoMark - 1, 2 * api.NoMark, math.MinInt, api.MaxMark + 1, api.MaxMark + 2, 2 * api.MaxMark, math.MaxInt}

// made gives the marks of so many sources.
func made(t *testing.T, sources int) *marks.Marks {
	t.Helper()
	m, e := marks.New(sources)
	if e != api.OK || m == nil {
		t.Fatalf("P13.1: New(%d): error %d", sources, e)
	}
	return m
}

// wantSet holds what Set answers against want.
func wantSet(t *testing.T, m *marks.Marks, source int, time int, rose bool, want api.Errno) {
	t.Helper()
	if got, e := m.Set(source, time); got != rose || e != want {
		t.Errorf("P13.1: Set(%d, %d): %v, error %d; want %v, error %d", source, time, got, e, rose, want)
	}
}

// wantTimes holds the marks of all sources against want, and the least one against that of want.
func wantTimes(t *testing.T, m *marks.Marks, want ...int) {
	t.Helper()
	if got := m.All(); !slices.Equal(got, want) {
		t.Errorf("P13.1: All: %v; want %v", got, want)
	}
	if got := m.Least(); got != slices.Min(want) {
		t.Errorf("P13.1: Least: %d, of %v", got, want)
	}
}

// wrongSources are none of so many.
func wrongSources(sources int) []int {
	return []int{-1, -2, -sources, sources, sources + 1, api.MaxSources, api.MaxSources + 1, math.MaxInt, math.MinInt}
}

func TestNew(t *testing.T) {
	for sources := 1; sources <= api.MaxSources; sources++ {
		wantTimes(t, made(t, sources), slices.Repeat([]int{api.NoMark}, sources)...)
	}
	for _, sources := range []int{0, -1, -2, -api.MaxSources, api.MaxSources + 1, api.MaxSources + 2, 2 * api.MaxSources, math.MaxInt, math.MinInt} {
		if m, e := marks.New(sources); m != nil || e != api.ErrMarksForm {
			t.Errorf("P13.1: New(%d): %v, error %d; want none, error %d", sources, m, e, api.ErrMarksForm)
		}
	}
}

// TestByHand: the least one rises only as the last source that stands there goes on.
func TestByHand(t *testing.T) {
	m := made(t, 3)
	for _, c := range []struct {
		source, time int
		rose         bool
		want         []int
	}{
		{1, 5, false, []int{api.NoMark, 5, api.NoMark}},
		{0, -7, false, []int{-7, 5, api.NoMark}},
		{2, 3, true, []int{-7, 5, 3}},
		{1, 9, false, []int{-7, 9, 3}},
		{0, 3, true, []int{3, 9, 3}},
		{0, 4, false, []int{4, 9, 3}},
		{2, 4, true, []int{4, 9, 4}},
		{2, 100, false, []int{4, 9, 100}},
		{0, 20, true, []int{20, 9, 100}},
		{1, 50, true, []int{20, 50, 100}},
	} {
		wantSet(t, m, c.source, c.time, c.rose, api.OK)
		wantTimes(t, m, c.want...)
	}
}

// TestKeepsTheGreater: a mark that is not above what its source had moves nothing, and is no error.
func TestKeepsTheGreater(t *testing.T) {
	m := made(t, 2)
	wantSet(t, m, 0, 10, false, api.OK)
	wantSet(t, m, 1, 20, true, api.OK)
	for _, time := range []int{20, 19, 10, 9, 0, -20, api.NoMark + 1} {
		wantSet(t, m, 1, time, false, api.OK)
		wantTimes(t, m, 10, 20)
	}
	for _, time := range []int{10, 9, 0, -20, api.NoMark + 1} {
		wantSet(t, m, 0, time, false, api.OK)
		wantTimes(t, m, 10, 20)
	}
	wantSet(t, m, 0, 11, true, api.OK)
	wantTimes(t, m, 11, 20)
}

// TestOneSource: its mark is the least one.
func TestOneSource(t *testing.T) {
	m := made(t, 1)
	had := api.NoMark
	for _, time := range []int{api.NoMark + 1, api.NoMark + 1, -api.MaxTime, -1, -2, 0, 1, 1, api.MaxTime, api.MaxMark - 1, api.MaxMark, api.MaxMark, 0} {
		wantSet(t, m, 0, time, time > had, api.OK)
		had = max(had, time)
		wantTimes(t, m, had)
	}
}

// TestEachSource: of each number of sources each one alone may hold the least one back.
func TestEachSource(t *testing.T) {
	for sources := 1; sources <= api.MaxSources; sources++ {
		for last := range sources {
			m := made(t, sources)
			for source := range sources {
				if source != last {
					wantSet(t, m, source, source-3, false, api.OK)
				}
			}
			if got := m.Least(); got != api.NoMark {
				t.Errorf("P13.1: Least: %d, though %d of %d told none", got, last, sources)
			}
			wantSet(t, m, last, api.NoMark+1, true, api.OK)
			wantSet(t, m, last, api.MaxMark, true, api.OK)
			want := make([]int, sources)
			for source := range want {
				want[source] = source - 3
			}
			want[last] = api.MaxMark
			wantTimes(t, m, want...)
		}
	}
}

// TestWrong: what may not be is refused, and moves nothing (R5).
func TestWrong(t *testing.T) {
	for sources := 1; sources <= api.MaxSources; sources++ {
		m := made(t, sources)
		want := slices.Repeat([]int{api.NoMark}, sources)
		for source := range sources {
			for _, time := range wrongTimes {
				wantSet(t, m, source, time, false, api.ErrMarksForm)
			}
			for _, wrong := range wrongSources(sources) {
				for _, time := range slices.Concat(wrongTimes, []int{0, api.MaxMark, api.NoMark + 1}) {
					wantSet(t, m, wrong, time, false, api.ErrMarksForm)
				}
			}
			wantTimes(t, m, want...)
			wantSet(t, m, source, 40+source, source == sources-1, api.OK)
			want[source] = 40 + source
			wantTimes(t, m, want...)
		}
	}
}

// TestAgainstAList: many calls, held against a plain list.
func TestAgainstAList(t *testing.T) {
	seed := uint32(7)
	next := func(n int) int {
		seed = seed*1664525 + 1013904223
		return int(seed>>8) % n
	}
	for range 300 {
		sources := 1 + next(api.MaxSources)
		m := made(t, sources)
		want := slices.Repeat([]int{api.NoMark}, sources)
		for i := range 120 {
			source, time := next(sources+2)-1, next(40)-20+i/2
			if source < 0 || source >= sources {
				wantSet(t, m, source, time, false, api.ErrMarksForm)
				continue
			}
			least := slices.Min(want)
			if time > want[source] {
				want[source] = time
			}
			wantSet(t, m, source, time, slices.Min(want) != least, api.OK)
			wantTimes(t, m, want...)
		}
	}
}

// TestAsks: what is asked for moves nothing.
func TestAsks(t *testing.T) {
	m := made(t, 2)
	wantSet(t, m, 1, 4, false, api.OK)
	for range 3 {
		wantTimes(t, m, api.NoMark, 4)
	}
	wantSet(t, m, 0, 2, true, api.OK)
	wantTimes(t, m, 2, 4)
}

// TestSharesNoMemory: a list that was answered is the caller's, its spare room too (R4).
func TestSharesNoMemory(t *testing.T) {
	m := made(t, 3)
	want := slices.Repeat([]int{api.NoMark}, 3)
	for i := range 9 {
		ahead, other := m.All(), m.All()
		was := slices.Clone(want)
		if _, e := m.Set(i%3, i); e != api.OK {
			t.Fatalf("P13.1: Set(%d, %d): error %d", i%3, i, e)
		}
		want[i%3] = i
		longer := append(ahead, 77)
		for i := range ahead {
			ahead[i], longer[i] = 1<<50, 1<<50
		}
		if !slices.Equal(other, was) {
			t.Errorf("R4: an answer changed to %v", other)
		}
		wantTimes(t, m, want...)
	}
}

// TestNil: no marks answer ErrNil, ahead of all else, and zero values (R3).
func TestNil(t *testing.T) {
	var m *marks.Marks
	for _, source := range []int{0, 1, -1, api.MaxSources, math.MaxInt, math.MinInt} {
		for _, time := range slices.Concat(wrongTimes, []int{0, 5}) {
			wantSet(t, m, source, time, false, api.ErrNil)
		}
	}
	if got := m.Least(); got != 0 {
		t.Errorf("R3: Least: %d", got)
	}
	if got := m.All(); got != nil {
		t.Errorf("R3: All: %v", got)
	}
}

// TestNotMade: of those that New did not make there is no source, and no call panics (R1).
func TestNotMade(t *testing.T) {
	var m marks.Marks
	for _, source := range []int{0, 1, -1, math.MaxInt, math.MinInt} {
		wantSet(t, &m, source, 5, false, api.ErrMarksForm)
	}
	if got := m.Least(); got != 0 {
		t.Errorf("R1: Least of no source: %d", got)
	}
	if got := m.All(); len(got) != 0 {
		t.Errorf("R1: All of no source: %v", got)
	}
}

// TestApart: marks of one New are none of another's (R5).
func TestApart(t *testing.T) {
	x, y := made(t, 2), made(t, 2)
	wantSet(t, x, 0, 5, false, api.OK)
	wantTimes(t, y, api.NoMark, api.NoMark)
	wantSet(t, y, 1, 6, false, api.OK)
	wantTimes(t, x, 5, api.NoMark)
	wantTimes(t, y, api.NoMark, 6)
	wantTimes(t, made(t, 2), api.NoMark, api.NoMark)
}

// TestTogether: marks of several goroutines, made by a plain function, at one time (R5).
func TestTogether(t *testing.T) {
	var all sync.WaitGroup
	for i := range api.MaxSources {
		all.Go(func() {
			m, e := marks.New(1 + i)
			if e != api.OK {
				t.Errorf("P13.1: New(%d): error %d", 1+i, e)
				return
			}
			want := make([]int, 1+i)
			for source := range want {
				want[source] = i + source*3
				wantSet(t, m, source, want[source], source == i, api.OK)
			}
			wantTimes(t, m, want...)
		})
	}
	all.Wait()
}
