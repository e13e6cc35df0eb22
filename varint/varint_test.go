package varint_test

import (
	"math"
	"math/big"
	"strings"
	"sync"
	"testing"

	"bourne/api"
	"bourne/varint"
)

// wantPut holds Put's answer against want.
func wantPut(t *testing.T, x int, want string) {
	t.Helper()
	if got := varint.Put(x); got != want {
		t.Errorf("P7.1: Put(%d): %x; want %x", x, got, want)
	}
}

// wantGet holds Get's answer against a number and its end.
func wantGet(t *testing.T, s string, at int, want int, wantEnd int) {
	t.Helper()
	if got, end, e := varint.Get(s, at); got != want || end != wantEnd || e != api.OK {
		t.Errorf("P7.1: Get(%x, %d): %d, %d, error %d; want %d, %d", s, at, got, end, e, want, wantEnd)
	}
}

// wantRefusal holds Get's answer against an error, beside which all is zero (R2).
func wantRefusal(t *testing.T, s string, at int, want api.Errno) {
	t.Helper()
	if got, end, e := varint.Get(s, at); got != 0 || end != 0 || e != want {
		t.Errorf("P7.1: Get(%x, %d): %d, %d, error %d; want 0, 0, error %d", s, at, got, end, e, want)
	}
}

// wantBoth holds a number against its bytes: there and back, alone and with bytes of others on both sides, and cut within.
func wantBoth(t *testing.T, x int, s string) {
	t.Helper()
	wantPut(t, x, s)
	for _, ahead := range []string{"", "\x00", "\x80", "\xff\xff", strings.Repeat("\x80", 12)} {
		for _, behind := range []string{"", "\x00", "\x01", "\x80", "\xff\xff"} {
			wantGet(t, ahead+s+behind, len(ahead), x, len(ahead)+len(s))
		}
		for n := range len(s) {
			wantRefusal(t, ahead+s[:n], len(ahead), api.ErrVarintCut)
		}
	}
}

// bytesOf gives x's bytes by the chapter's words, in numbers without ends.
func bytesOf(x int) string {
	folded := big.NewInt(int64(x))
	if x < 0 {
		folded.Mul(folded, big.NewInt(-2)).Sub(folded, big.NewInt(1))
	} else {
		folded.Mul(folded, big.NewInt(2))
	}
	var out []byte
	for digit := new(big.Int); ; {
		folded.DivMod(folded, big.NewInt(128), digit)
		if folded.Sign() == 0 {
			return string(append(out, byte(digit.Int64())))
		}
		out = append(out, byte(digit.Int64()+128))
	}
}

func TestByHand(t *testing.T) {
	for _, c := range []struct {
		x int
		s string
	}{
		{0, "\x00"}, {-1, "\x01"}, {1, "\x02"}, {-2, "\x03"}, {2, "\x04"},
		{63, "\x7e"}, {-64, "\x7f"}, {64, "\x80\x01"}, {-65, "\x81\x01"}, {65, "\x82\x01"},
		{127, "\xfe\x01"}, {-128, "\xff\x01"}, {128, "\x80\x02"}, {150, "\xac\x02"}, {-151, "\xad\x02"},
		{8191, "\xfe\x7f"}, {-8192, "\xff\x7f"}, {8192, "\x80\x80\x01"}, {-8193, "\x81\x80\x01"},
		{1048575, "\xfe\xff\x7f"}, {1048576, "\x80\x80\x80\x01"},
		{api.MaxTime, strings.Repeat("\x80", 5) + "\x40"}, {-api.MaxTime, strings.Repeat("\xff", 5) + "\x3f"},
		{1<<62 - 1, "\xfe" + strings.Repeat("\xff", 7) + "\x7f"}, {-1 << 62, strings.Repeat("\xff", 8) + "\x7f"},
		{1 << 62, strings.Repeat("\x80", 9) + "\x01"}, {-1<<62 - 1, "\x81" + strings.Repeat("\x80", 8) + "\x01"},
		{math.MaxInt, "\xfe" + strings.Repeat("\xff", 8) + "\x01"}, {math.MinInt, strings.Repeat("\xff", 9) + "\x01"},
	} {
		wantBoth(t, c.x, c.s)
	}
}

// TestThereAndBack holds numbers at each length, of either sign, against the chapter's words.
func TestThereAndBack(t *testing.T) {
	for x := -9000; x <= 9000; x++ {
		wantPut(t, x, bytesOf(x))
		wantGet(t, bytesOf(x), 0, x, len(bytesOf(x)))
	}
	for bit := range 64 {
		for off := -3; off <= 3; off++ {
			// Wrapped round, these are numbers too.
			for _, x := range []int{1<<bit + off, -(1 << bit) + off, (1<<bit)/3 + off} {
				wantBoth(t, x, bytesOf(x))
			}
		}
	}
}

// TestLengths: as few bytes as may be; each further one makes room for 128 times as many numbers.
func TestLengths(t *testing.T) {
	for length := 1; length <= 9; length++ {
		least, greatest := -1<<(7*length-1), 1<<(7*length-1)-1
		for _, c := range []struct{ x, want int }{{least, length}, {greatest, length}, {least - 1, length + 1}, {greatest + 1, length + 1}} {
			if got := len(varint.Put(c.x)); got != c.want {
				t.Errorf("P7.1: Put(%d): %d bytes; want %d", c.x, got, c.want)
			}
		}
	}
}

// TestInARow reads numbers one behind the other out of one text.
func TestInARow(t *testing.T) {
	row := []int{0, -1, 63, 64, math.MinInt, 5, math.MaxInt, -8193, 0, 0, api.MaxMark, api.NoMark}
	var all strings.Builder
	for _, x := range row {
		all.WriteString(varint.Put(x))
	}
	at := 0
	for _, x := range row {
		got, end, e := varint.Get(all.String(), at)
		if got != x || end <= at || e != api.OK {
			t.Fatalf("P7.1: Get(%x, %d): %d, %d, error %d; want %d", all.String(), at, got, end, e, x)
		}
		at = end
	}
	if at != all.Len() {
		t.Errorf("P7.1: ends at %d of %d", at, all.Len())
	}
}

// TestWrongPlaces: a place that is none is refused whatever s holds; at s's length nothing is left.
func TestWrongPlaces(t *testing.T) {
	for _, s := range []string{"", "\x00", "\x80", "\x02\x04", "\x80\x00", strings.Repeat("\xff", 10), strings.Repeat("\x02", 30)} {
		for _, at := range []int{math.MinInt, math.MinInt + 1, -100, -2, -1, len(s) + 1, len(s) + 2, len(s) + 10, math.MaxInt - 10, math.MaxInt - 1, math.MaxInt} {
			wantRefusal(t, s, at, api.ErrVarintForm)
		}
		wantRefusal(t, s, len(s), api.ErrVarintCut)
	}
}

// TestCutOrForm: ten bytes from 128 on are none, fewer might become one, whatever they are.
func TestCutOrForm(t *testing.T) {
	for _, b := range []string{"\x80", "\x81", "\xaa", "\xfe", "\xff"} {
		for n := range 30 {
			want := api.ErrVarintForm
			if n < 10 {
				want = api.ErrVarintCut
			}
			wantRefusal(t, strings.Repeat(b, n), 0, want)
			wantRefusal(t, "\x00\x80"+strings.Repeat(b, n), 2, want)
		}
		for last := range 128 {
			for n := 10; n < 13; n++ {
				wantRefusal(t, strings.Repeat(b, n)+string([]byte{byte(last)}), 0, api.ErrVarintForm)
			}
		}
	}
}

// TestTooManyBits: of a tenth byte only the lowest bit is a number's.
func TestTooManyBits(t *testing.T) {
	for _, ahead := range []string{strings.Repeat("\x80", 9), strings.Repeat("\xff", 9), "\xfe\x80\x80\x80\xc1\x80\x80\x80\xff"} {
		for last := range 128 {
			s := ahead + string([]byte{byte(last)})
			if last == 1 {
				if x, end, e := varint.Get(s, 0); e != api.OK || end != 10 || varint.Put(x) != s {
					t.Errorf("P7.1: Get(%x, 0): %d, %d, error %d", s, x, end, e)
				}
				continue
			}
			wantRefusal(t, s, 0, api.ErrVarintForm)
		}
	}
}

// TestTooManyBytes: a zero behind bytes ahead is one too many, be it the second or the tenth.
func TestTooManyBytes(t *testing.T) {
	for n := 1; n <= 9; n++ {
		for _, b := range []string{"\x80", "\x81", "\xc0", "\xff"} {
			wantRefusal(t, strings.Repeat(b, n)+"\x00", 0, api.ErrVarintForm)
			wantRefusal(t, strings.Repeat(b, n)+"\x00\x01", 0, api.ErrVarintForm)
		}
		wantRefusal(t, "\xff"+strings.Repeat("\x80", n-1)+"\x00", 0, api.ErrVarintForm)
	}
	// A zero of its own, and one ahead of more, are well.
	wantGet(t, "\x00\x00", 0, 0, 1)
	wantGet(t, "\x80\x80\x01", 0, 8192, 3)
}

// TestAllSmallTexts: each text of up to three bytes is just one number's, or cut, or one with a zero too many.
func TestAllSmallTexts(t *testing.T) {
	numbers := 0
	eachText(3, func(s string) {
		x, end, e := varint.Get(s, 0)
		switch {
		case s == "" || s[len(s)-1] >= 128:
			wantRefusal(t, s, 0, api.ErrVarintCut)
		case len(s) > 1 && s[len(s)-1] == 0:
			wantRefusal(t, s, 0, api.ErrVarintForm)
		default:
			numbers++
			if e != api.OK || end != len(s) || x < -1<<20 || x >= 1<<20 || varint.Put(x) != s {
				t.Errorf("P7.1: Get(%x, 0): %d, %d, error %d", s, x, end, e)
			}
		}
	})
	// No two texts are one number's, as Put gave each back: so these are all numbers of so many bits.
	if numbers != 1<<21 {
		t.Errorf("P7.1: %d texts; want %d", numbers, 1<<21)
	}
}

// eachText calls do with each text of at most so many bytes, in which a byte below 128 stands at the end alone.
func eachText(most int, do func(s string)) {
	var grow func(s []byte)
	grow = func(s []byte) {
		do(string(s))
		if len(s) == most || len(s) > 0 && s[len(s)-1] < 128 {
			return
		}
		for b := range 256 {
			grow(append(s, byte(b)))
		}
	}
	grow(make([]byte, 0, most))
}

// TestGetStopsAtTheEnd: a text without end is not read through.
func TestGetStopsAtTheEnd(t *testing.T) {
	s := strings.Repeat("\x80", 1<<24)
	for range 1000 {
		if _, _, e := varint.Get(s, 0); e != api.ErrVarintForm {
			t.Fatalf("P7.1: error %d; want %d", e, api.ErrVarintForm)
		}
		if _, _, e := varint.Get(s, len(s)-1); e != api.ErrVarintCut {
			t.Fatalf("P7.1: error %d; want %d", e, api.ErrVarintCut)
		}
	}
}

// TestTogether: plain functions, from several goroutines at one time (R5).
func TestTogether(t *testing.T) {
	var all sync.WaitGroup
	for i := range 8 {
		all.Go(func() {
			for n := range 2000 {
				x := (n - 1000) << (7 * i)
				wantPut(t, x, bytesOf(x))
				wantGet(t, bytesOf(x)+"\x05", 0, x, len(bytesOf(x)))
			}
		})
	}
	all.Wait()
}
