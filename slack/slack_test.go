package slack_test

import (
	"math"
	"math/big"
	"sync"
	"testing"

	"bourne/api"
	"bourne/slack"
)

// wrongTimes are none of a sample.
var wrongTimes = []int{-api.MaxTime - 1, -api.MaxTime - 2, -2 * api.MaxTime, api.NoMark, math.MinInt, api.MaxTime + 1, api.MaxTime + 2, 2 * api.MaxTime, api.MaxMark, math.MaxInt}

// wrongLates are none of a run.
var wrongLates = []int{-1, -2, -api.MaxLate, math.MinInt, api.MaxLate + 1, api.MaxLate + 2, 2 * api.MaxLate, math.MaxInt}

// someLates are the edges of those that may be, and some between.
var someLates = []int{0, 1, 2, 3, 10, 1000, api.MaxLate - 1, api.MaxLate}

// made gives a slack of that lateness, which has seen nothing.
func made(t *testing.T, late int) *slack.Slack {
	t.Helper()
	s, e := slack.New(late)
	if e != api.OK || s == nil {
		t.Fatalf("P16.1: New(%d): error %d", late, e)
	}
	if got := s.K(); got != 0 {
		t.Fatalf("P16.1: New(%d): K: %d, of no time", late, got)
	}
	return s
}

// wantSee holds what See answers, and K behind it, against want.
func wantSee(t *testing.T, s *slack.Slack, time int, k int, want api.Errno) {
	t.Helper()
	if e := s.See(time); e != want {
		t.Errorf("P16.1: See(%d): error %d; want %d", time, e, want)
	}
	if got := s.K(); got != k {
		t.Errorf("P16.1: K: %d behind %d; want %d", got, time, k)
	}
}

// greatest gives K of times by the chapter's words: each is held against each ahead of it.
func greatest(times []int, late int) int {
	k := 0
	for i, time := range times {
		for _, ahead := range times[:i] {
			k = max(k, ahead-time)
		}
	}
	return min(k, late)
}

func TestNew(t *testing.T) {
	for _, late := range someLates {
		made(t, late)
	}
	for _, late := range wrongLates {
		if s, e := slack.New(late); s != nil || e != api.ErrSlackForm {
			t.Errorf("P16.1: New(%d): %v, error %d; want none, error %d", late, s, e, api.ErrSlackForm)
		}
	}
}

// TestByHand: the greatest time counts, not the last one; a difference that is not above K moves nothing, and K never falls.
func TestByHand(t *testing.T) {
	s := made(t, 20)
	for _, c := range [][2]int{
		{-7, 0}, {-7, 0}, {-9, 2}, {-8, 2}, {-10, 3}, {-7, 3}, {-6, 3}, {5, 3}, {2, 3}, {1, 4}, {4, 4},
		{-5, 10}, {30, 10}, {25, 10}, {15, 15}, {11, 19}, {10, 20}, {9, 20}, {-500, 20}, {40, 20}, {40, 20},
	} {
		wantSee(t, s, c[0], c[1], api.OK)
	}
}

// TestFirst: the first time is below none, wherever it stands, and counts from then on.
func TestFirst(t *testing.T) {
	for _, first := range []int{-api.MaxTime, -api.MaxTime + 1, -100, -1, 0, 1, 100, api.MaxTime - 1, api.MaxTime} {
		s := made(t, api.MaxLate)
		wantSee(t, s, first, 0, api.OK)
		wantSee(t, s, first, 0, api.OK)
		if first > -api.MaxTime {
			wantSee(t, s, first-1, 1, api.OK)
		}
		wantSee(t, s, first, min(1, first+api.MaxTime), api.OK)
	}
}

// TestRising: of times none of which is below one ahead of it, K stays 0.
func TestRising(t *testing.T) {
	s := made(t, api.MaxLate)
	for _, time := range []int{-api.MaxTime, -api.MaxTime, -5, -5, 0, 0, 1, api.MaxLate, api.MaxTime, api.MaxTime} {
		wantSee(t, s, time, 0, api.OK)
	}
}

// TestAtMostLate: of each lateness, differences below it, of it, and above it, one behind the other and each alone.
func TestAtMostLate(t *testing.T) {
	for _, late := range someLates {
		s := made(t, late)
		wantSee(t, s, 0, 0, api.OK)
		for _, by := range []int{late - 1, late, late + 1, late + 2, 2*late + 5, api.MaxTime} {
			if by < 0 {
				continue
			}
			wantSee(t, s, -by, min(by, late), api.OK)
			alone := made(t, late)
			wantSee(t, alone, 7, 0, api.OK)
			wantSee(t, alone, max(7-by, -api.MaxTime), min(by, late), api.OK)
		}
	}
}

// TestEnds: from the greatest time to the least one.
func TestEnds(t *testing.T) {
	for _, late := range someLates {
		s := made(t, late)
		wantSee(t, s, -api.MaxTime, 0, api.OK)
		wantSee(t, s, api.MaxTime, 0, api.OK)
		wantSee(t, s, api.MaxTime-late, late, api.OK)
		wantSee(t, s, -api.MaxTime, late, api.OK)
		wantSee(t, s, api.MaxTime, late, api.OK)
	}
}

// TestWrongTimes: one that may not be was not seen: neither K nor what comes behind it tells of it (R5).
func TestWrongTimes(t *testing.T) {
	for _, wrong := range wrongTimes {
		s := made(t, 100)
		wantSee(t, s, wrong, 0, api.ErrSlackForm)
		wantSee(t, s, -50, 0, api.OK)
		wantSee(t, s, wrong, 0, api.ErrSlackForm)
		wantSee(t, s, -53, 3, api.OK)
		wantSee(t, s, wrong, 3, api.ErrSlackForm)
		wantSee(t, s, 10, 3, api.OK)
		wantSee(t, s, wrong, 3, api.ErrSlackForm)
		wantSee(t, s, 6, 4, api.OK)
	}
}

// TestEachRow: each row of up to six of five times, of each lateness about their differences, against the chapter's words.
func TestEachRow(t *testing.T) {
	for late := range 7 {
		rows := 1
		for length := range 7 {
			for row := range rows {
				s := made(t, late)
				var times []int
				for range length {
					times = append(times, row%5-2)
					row /= 5
					wantSee(t, s, times[len(times)-1], greatest(times, late), api.OK)
				}
			}
			rows *= 5
		}
	}
}

// TestAgainstAList: many rows, near and far, held against a plain list, with wrong times among them.
func TestAgainstAList(t *testing.T) {
	seed := uint32(9)
	next := func(n int) int {
		seed = seed*1664525 + 1013904223
		return int(seed>>8) % n
	}
	for range 400 {
		scale := 1 + next(1<<20)
		late := min(next(60)*scale, api.MaxLate)
		s := made(t, late)
		var times []int
		for i := range 80 {
			if next(6) == 0 {
				wantSee(t, s, wrongTimes[next(len(wrongTimes))], greatest(times, late), api.ErrSlackForm)
				continue
			}
			times = append(times, (next(90)-45+i/2)*scale)
			wantSee(t, s, times[len(times)-1], greatest(times, late), api.OK)
		}
	}
}

// TestAsks: what is asked for moves nothing.
func TestAsks(t *testing.T) {
	s := made(t, 9)
	for range 3 {
		if got := s.K(); got != 0 {
			t.Errorf("P16.1: K: %d, of no time", got)
		}
	}
	wantSee(t, s, 5, 0, api.OK)
	wantSee(t, s, 1, 4, api.OK)
	for range 3 {
		if got := s.K(); got != 4 {
			t.Errorf("P16.1: K: %d; want 4", got)
		}
	}
	wantSee(t, s, -1, 6, api.OK)
}

// TestMany: as many times as a long run has, of which each takes as long as the first.
func TestMany(t *testing.T) {
	s := made(t, 1000)
	for i := range 1 << 21 {
		if e := s.See(i - i%700); e != api.OK {
			t.Fatalf("P16.1: See(%d): error %d", i-i%700, e)
		}
	}
	if got := s.K(); got != 0 {
		t.Errorf("P16.1: K: %d, of times that rise", got)
	}
	for i := range 1 << 21 {
		if e := s.See(1<<21 - i%701); e != api.OK {
			t.Fatalf("P16.1: See(%d): error %d", 1<<21-i%701, e)
		}
	}
	if got := s.K(); got != 700 {
		t.Errorf("P16.1: K: %d; want 700", got)
	}
}

// TestNil: no slack answers ErrNil, ahead of all else, and zero values (R3).
func TestNil(t *testing.T) {
	var s *slack.Slack
	for _, time := range append([]int{0, 5, -5, api.MaxTime, -api.MaxTime}, wrongTimes...) {
		wantSee(t, s, time, 0, api.ErrNil)
	}
}

// TestNotMade: one that New did not make has no lateness, and does not panic (R1).
func TestNotMade(t *testing.T) {
	var s slack.Slack
	for _, time := range []int{5, -5, api.MaxTime, -api.MaxTime} {
		wantSee(t, &s, time, 0, api.OK)
	}
	for _, wrong := range wrongTimes {
		wantSee(t, &s, wrong, 0, api.ErrSlackForm)
	}
}

// TestApart: what one has seen is none of another's (R5).
func TestApart(t *testing.T) {
	x, y := made(t, 10), made(t, 3)
	wantSee(t, x, 50, 0, api.OK)
	wantSee(t, y, 20, 0, api.OK)
	wantSee(t, x, 42, 8, api.OK)
	wantSee(t, y, 19, 1, api.OK)
	wantSee(t, y, 9, 3, api.OK)
	wantSee(t, x, 30, 10, api.OK)
	wantSee(t, made(t, 10), 0, 0, api.OK)
}

// TestTogether: slacks of several goroutines, made by a plain function, and Line, at one time (R5).
func TestTogether(t *testing.T) {
	var all sync.WaitGroup
	for i := range 8 {
		all.Go(func() {
			s, e := slack.New(i)
			if e != api.OK {
				t.Errorf("P16.1: New(%d): error %d", i, e)
				return
			}
			for n := range 40 {
				wantSee(t, s, -n, min(n, i), api.OK)
				wantLine(t, n, i, n-i)
			}
		})
	}
	all.Wait()
}

// wantLine holds what Line answers against want.
func wantLine(t *testing.T, least int, late int, want int) {
	t.Helper()
	if got := slack.Line(least, late); got != want {
		t.Errorf("P16.1: Line(%d, %d): %d; want %d", least, late, got, want)
	}
}

func TestLineByHand(t *testing.T) {
	for _, c := range [][3]int{
		{0, 0, 0}, {0, 1, -1}, {5, 3, 2}, {5, 5, 0}, {5, 9, -4}, {-5, 0, -5}, {-5, 7, -12}, {-api.MaxTime, 2, -api.MaxTime - 2},
		{api.MaxMark, 0, api.MaxMark}, {api.MaxMark, api.MaxLate, api.MaxMark - api.MaxLate}, {0, api.MaxLate, -api.MaxLate},
		{api.NoMark, 0, api.NoMark}, {api.NoMark, 1, api.NoMark}, {api.NoMark, api.MaxLate, api.NoMark},
		{api.NoMark + 3, 2, api.NoMark + 1}, {api.NoMark + 3, 3, api.NoMark}, {api.NoMark + 3, 4, api.NoMark},
		{api.NoMark + api.MaxLate, api.MaxLate, api.NoMark}, {api.NoMark + api.MaxLate - 1, api.MaxLate, api.NoMark}, {api.NoMark + api.MaxLate + 1, api.MaxLate, api.NoMark + 1},
	} {
		wantLine(t, c[0], c[1], c[2])
	}
}

// TestLineOfWrong: of a least mark or a lateness that may not be it is NoMark, to the ends of the numbers.
func TestLineOfWrong(t *testing.T) {
	leasts := []int{api.NoMark, api.NoMark + 1, -1, 0, 1, api.MaxMark - 1, api.MaxMark}
	for _, least := range []int{api.NoMark - 1, api.NoMark - 2, 2 * api.NoMark, math.MinInt, math.MinInt + 1, api.MaxMark + 1, api.MaxMark + 2, api.MaxMark + api.MaxLate, 2 * api.MaxMark, math.MaxInt} {
		for _, late := range append(someLates, wrongLates...) {
			wantLine(t, least, late, api.NoMark)
		}
	}
	for _, late := range wrongLates {
		for _, least := range leasts {
			wantLine(t, least, late, api.NoMark)
		}
	}
}

// TestLineWithoutEnds: about each limit of both, against the chapter's words in numbers without ends.
func TestLineWithoutEnds(t *testing.T) {
	var leasts, lates []int
	for by := -3; by <= 3; by++ {
		for _, least := range []int{api.NoMark, api.NoMark + 10, api.NoMark + api.MaxLate, -api.MaxTime, -api.MaxLate, 0, api.MaxLate, api.MaxTime, api.MaxMark, math.MinInt + 3, math.MaxInt - 3} {
			leasts = append(leasts, least+by)
		}
		for _, late := range []int{0, 10, api.MaxLate, -api.MaxLate, math.MinInt + 3, math.MaxInt - 3} {
			lates = append(lates, late+by)
		}
	}
	for _, least := range leasts {
		for _, late := range lates {
			want := api.NoMark
			if least >= api.NoMark && least <= api.MaxMark && late >= 0 && late <= api.MaxLate {
				line := new(big.Int).Sub(big.NewInt(int64(least)), big.NewInt(int64(late)))
				if line.Cmp(big.NewInt(api.NoMark)) > 0 {
					want = int(line.Int64())
				}
			}
			wantLine(t, least, late, want)
		}
	}
}
