package floor_test

import (
	"math"
	"math/big"
	"sync"
	"testing"

	"bourne/api"
	"bourne/floor"
)

// call is one of the layer's calls.
type call func(a int, b int) (int, api.Errno)

// want holds a call's answer against want.
func want(t *testing.T, name string, f call, a int, b int, want int) {
	t.Helper()
	if got, e := f(a, b); got != want || e != api.OK {
		t.Errorf("P3.1: %s(%d, %d): %d, error %d; want %d", name, a, b, got, e, want)
	}
}

// wantRefusal holds a call's answer against ErrFloorForm, beside which all is zero (R2).
func wantRefusal(t *testing.T, name string, f call, a int, b int) {
	t.Helper()
	if got, e := f(a, b); got != 0 || e != api.ErrFloorForm {
		t.Errorf("P3.1: %s(%d, %d): %d, error %d; want 0, error %d", name, a, b, got, e, api.ErrFloorForm)
	}
}

// edges are numbers at which a step might overflow or a sign might turn.
var edges = []int{
	math.MinInt, math.MinInt + 1, math.MinInt + 2, math.MinInt / 2, math.MinInt/2 + 1, math.MinInt32 - 1, math.MinInt32,
	-api.MaxMark, -api.MaxTime - 1, -api.MaxTime, -api.MaxTime + 1, -10, -9, -8, -7, -3, -2, -1,
	0, 1, 2, 3, 4, 5, 6, 7, 8, 9, 10, 12, 1000, api.MaxSpan - 1, api.MaxSpan, api.MaxSpan + 1,
	api.MaxTime - 1, api.MaxTime, api.MaxTime + 1, api.MaxMark, math.MaxInt / 2, math.MaxInt/2 + 1, math.MaxInt - 1, math.MaxInt,
}

func TestDivMod(t *testing.T) {
	for _, c := range []struct{ a, b, div, mod int }{
		{0, 1, 0, 0}, {0, 5, 0, 0},
		{7, 1, 7, 0}, {-7, 1, -7, 0},
		{4, 5, 0, 4}, {5, 5, 1, 0}, {6, 5, 1, 1}, {9, 5, 1, 4}, {10, 5, 2, 0}, {11, 5, 2, 1},
		{-1, 5, -1, 4}, {-4, 5, -1, 1}, {-5, 5, -1, 0}, {-6, 5, -2, 4}, {-9, 5, -2, 1}, {-10, 5, -2, 0}, {-11, 5, -3, 4},
		{-1, 2, -1, 1}, {-2, 2, -1, 0}, {-3, 2, -2, 1},
		{api.MaxTime, api.MaxSpan, 1024, 0}, {-api.MaxTime, api.MaxSpan, -1024, 0},
		{api.MaxTime - 1, api.MaxSpan, 1023, api.MaxSpan - 1}, {-api.MaxTime - 1, api.MaxSpan, -1025, api.MaxSpan - 1},
	} {
		want(t, "Div", floor.Div, c.a, c.b, c.div)
		want(t, "Mod", floor.Mod, c.a, c.b, c.mod)
	}
}

// TestDivModAtTheEnds: no step overflows ("Ways").
func TestDivModAtTheEnds(t *testing.T) {
	for _, c := range []struct{ a, b, div, mod int }{
		{math.MinInt, 1, math.MinInt, 0},
		{math.MinInt, 2, math.MinInt / 2, 0},
		{math.MinInt + 1, 2, math.MinInt / 2, 1},
		{math.MinInt, 3, -3074457345618258603, 1},
		{math.MinInt, math.MaxInt, -2, math.MaxInt - 1},
		{math.MinInt + 1, math.MaxInt, -1, 0},
		{math.MinInt + 2, math.MaxInt, -1, 1},
		{math.MinInt, math.MaxInt - 1, -2, math.MaxInt - 3},
		{-1, math.MaxInt, -1, math.MaxInt - 1},
		{0, math.MaxInt, 0, 0},
		{1, math.MaxInt, 0, 1},
		{math.MaxInt - 1, math.MaxInt, 0, math.MaxInt - 1},
		{math.MaxInt, 1, math.MaxInt, 0},
		{math.MaxInt, 2, math.MaxInt / 2, 1},
		{math.MaxInt, math.MaxInt - 1, 1, 1},
		{math.MaxInt, math.MaxInt, 1, 0},
	} {
		want(t, "Div", floor.Div, c.a, c.b, c.div)
		want(t, "Mod", floor.Mod, c.a, c.b, c.mod)
	}
}

// TestDivModInTheLarge holds the edges against one another in numbers without ends.
func TestDivModInTheLarge(t *testing.T) {
	for _, a := range edges {
		for _, b := range edges {
			if b < 1 {
				wantRefusal(t, "Div", floor.Div, a, b)
				wantRefusal(t, "Mod", floor.Mod, a, b)
				continue
			}
			// Of a divisor above 0, big's DivMod divides down.
			div, mod := new(big.Int).DivMod(big.NewInt(int64(a)), big.NewInt(int64(b)), new(big.Int))
			want(t, "Div", floor.Div, a, b, int(div.Int64()))
			want(t, "Mod", floor.Mod, a, b, int(mod.Int64()))
		}
	}
}

// TestDivModInARow counts up through all small numbers, without a division.
func TestDivModInARow(t *testing.T) {
	for b := 1; b <= 40; b++ {
		div, mod := -6, 0
		for a := -6 * b; a <= 6*b; a++ {
			want(t, "Div", floor.Div, a, b, div)
			want(t, "Mod", floor.Mod, a, b, mod)
			mod++
			if mod == b {
				div, mod = div+1, 0
			}
		}
	}
}

func TestGcd(t *testing.T) {
	for _, c := range []struct{ a, b, want int }{
		{1, 1, 1}, {1, 9, 1}, {6, 6, 6}, {6, 4, 2}, {6, 3, 3}, {8, 9, 1}, {12, 18, 6}, {17, 51, 17}, {35, 64, 1}, {1071, 462, 21},
		{832040, 514229, 1},
		{7540113804746346429, 4660046610375530309, 1},
		{api.MaxSpan, 1000, 8}, {api.MaxSpan, api.MaxSpan - 1, 1},
		{1 << 62, 1 << 40, 1 << 40}, {1 << 62, 3, 1},
		{math.MaxInt, 1, 1}, {math.MaxInt, 7, 7}, {math.MaxInt, math.MaxInt - 1, 1}, {math.MaxInt, math.MaxInt, math.MaxInt},
	} {
		want(t, "Gcd", floor.Gcd, c.a, c.b, c.want)
		want(t, "Gcd", floor.Gcd, c.b, c.a, c.want)
	}
}

// TestGcdByTrial holds Gcd of small numbers against the chapter's words.
func TestGcdByTrial(t *testing.T) {
	for a := 1; a <= 90; a++ {
		for b := 1; b <= 90; b++ {
			greatest := min(a, b)
			for a%greatest != 0 || b%greatest != 0 {
				greatest--
			}
			want(t, "Gcd", floor.Gcd, a, b, greatest)
		}
	}
}

func TestGcdInTheLarge(t *testing.T) {
	for _, a := range edges {
		for _, b := range edges {
			if a < 1 || b < 1 {
				wantRefusal(t, "Gcd", floor.Gcd, a, b)
				continue
			}
			gcd := new(big.Int).GCD(nil, nil, big.NewInt(int64(a)), big.NewInt(int64(b)))
			want(t, "Gcd", floor.Gcd, a, b, int(gcd.Int64()))
		}
	}
}

func TestWrongNumbers(t *testing.T) {
	for _, low := range []int{0, -1, -2, -7, -api.MaxTime, math.MinInt + 1, math.MinInt} {
		for _, other := range []int{math.MinInt, -14, -7, -1, 0, 1, 7, 14, math.MaxInt} {
			wantRefusal(t, "Div", floor.Div, other, low)
			wantRefusal(t, "Mod", floor.Mod, other, low)
			wantRefusal(t, "Gcd", floor.Gcd, other, low)
			wantRefusal(t, "Gcd", floor.Gcd, low, other)
		}
	}
}

// TestTogether: plain functions, from several goroutines at one time (R5).
func TestTogether(t *testing.T) {
	var all sync.WaitGroup
	for i := range 8 {
		all.Go(func() {
			for a := range 500 {
				want(t, "Div", floor.Div, a*(i+1)-1, i+1, a-1)
				want(t, "Mod", floor.Mod, a*(i+1)-1, i+1, i)
				want(t, "Gcd", floor.Gcd, (a+1)*(i+1), i+1, i+1)
			}
		})
	}
	all.Wait()
}
