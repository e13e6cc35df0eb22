package frame_test

import (
	"bytes"
	"math"
	"math/big"
	"strings"
	"sync"
	"testing"
	"unsafe"

	"bourne/api"
	"bourne/frame"
)

// wantSum holds Sum's answer against want.
func wantSum(t *testing.T, s string, want int) {
	t.Helper()
	if got := frame.Sum(s); got != want {
		t.Errorf("P8.1: Sum(%x): %x; want %x", s, got, want)
	}
}

// wantPut holds Put's answer against want.
func wantPut(t *testing.T, body string, want string) {
	t.Helper()
	if got, e := frame.Put(body); got != want || e != api.OK {
		t.Errorf("P8.2: Put(%x): %x, error %d; want %x", body, got, e, want)
	}
}

// wantGet holds Get's answer against a body and its end.
func wantGet(t *testing.T, s string, at int, want string, wantEnd int) {
	t.Helper()
	if got, end, e := frame.Get(s, at); got != want || end != wantEnd || e != api.OK {
		t.Errorf("P8.2: Get(%x, %d): %x, %d, error %d; want %x, %d", s, at, got, end, e, want, wantEnd)
	}
}

// wantRefusal holds Get's answer against an error, beside which all is zero (R2).
func wantRefusal(t *testing.T, s string, at int, want api.Errno) {
	t.Helper()
	if got, end, e := frame.Get(s, at); got != "" || end != 0 || e != want {
		t.Errorf("P8.2: Get(%x, %d): %x, %d, error %d; want error %d", s, at, got, end, e, want)
	}
}

// text gives the text of some bytes.
func text(bs ...byte) string {
	return string(bs)
}

// changed gives s with another byte at a place.
func changed(s string, place int, b byte) string {
	return s[:place] + text(b) + s[place+1:]
}

// mixed gives n bytes by a short rule, others for each seed.
func mixed(n int, seed uint32) string {
	out := make([]byte, n)
	for i := range out {
		seed = seed*1664525 + 1013904223
		out[i] = byte(seed >> 24)
	}
	return string(out)
}

// bodies gives some of each length that may be: of one byte alone, and mixed ones.
func bodies() []string {
	var out []string
	for n := 1; n <= api.MaxBody; n++ {
		for _, b := range []byte{0, 1, 60, 61, 127, 128, api.Mark, 255} {
			out = append(out, strings.Repeat(text(b), n))
		}
		for seed := range 8 {
			out = append(out, mixed(n, uint32(seed)))
		}
	}
	return out
}

// sumByDivision gives what is left of s as one number, with the first sum laid over its beginning and room for a sum behind it, divided without carries by 2^16 + 4129.
func sumByDivision(s string) int {
	left := new(big.Int).Lsh(new(big.Int).SetBytes([]byte(s)), 16)
	left.Xor(left, new(big.Int).Lsh(big.NewInt(65535), uint(8*len(s))))
	for left.BitLen() > 16 {
		left.Xor(left, new(big.Int).Lsh(big.NewInt(1<<16+4129), uint(left.BitLen()-17)))
	}
	return int(left.Int64())
}

// frameByWords gives body's frame by the chapter's words.
func frameByWords(body string) string {
	summed := text(byte(len(body))) + body
	sum := sumByDivision(summed)
	return "\xb5" + summed + text(byte(sum/256), byte(sum%256))
}

// getByWords tries each length that a frame may have: the first one that s has there, or might come to have.
func getByWords(s string, at int) (string, int, api.Errno) {
	if at < 0 || at > len(s) {
		return "", 0, api.ErrFrameForm
	}
	rest := s[at:]
	for n := 1; n <= 60; n++ {
		head := text(181, byte(n))
		if len(rest) < n+4 && (strings.HasPrefix(rest, head) || strings.HasPrefix(head, rest)) {
			return "", 0, api.ErrFrameCut
		}
		if len(rest) >= n+4 && strings.HasPrefix(rest, head) && frameByWords(rest[2:n+2]) == rest[:n+4] {
			return rest[2 : n+2], at + n + 4, api.OK
		}
	}
	return "", 0, api.ErrFrameForm
}

// wantByWords holds Get's answer against getByWords.
func wantByWords(t *testing.T, s string, at int) {
	t.Helper()
	body, end, e := getByWords(s, at)
	if e != api.OK {
		wantRefusal(t, s, at, e)
		return
	}
	wantGet(t, s, at, body, end)
}

func TestSumsByHand(t *testing.T) {
	for _, c := range []struct {
		s    string
		want int
	}{
		{"", 0xffff}, {"\x00", 0xe1f0}, {"\xff", 0xff00}, {"\x00\x00", 0x1d0f}, {"\xff\xff", 0},
		{"A", 0xb915}, {"123456789", 0x29b1}, {"bourne", 0xfa13},
		{"\x01x", 0xd1a1}, {"\x01\x00", 0x2e3e}, {"\x01\xb5", 0xd940}, {"\x02\xb5\x01", 0x5325}, {"\x03abc", 0x82ca},
		{"\x3c" + strings.Repeat("\x00", 60), 0x6783}, {"\x3c" + strings.Repeat("\xff", 60), 0x5f0c},
		{strings.Repeat("\xb5", 1000), 0x97a4},
	} {
		wantSum(t, c.s, c.want)
	}
}

// TestSumsByDivision holds all texts of up to two bytes, and longer ones, against the division.
func TestSumsByDivision(t *testing.T) {
	for a := range 256 {
		wantSum(t, text(byte(a)), sumByDivision(text(byte(a))))
		for b := range 256 {
			s := text(byte(a), byte(b))
			wantSum(t, s, sumByDivision(s))
		}
	}
	for n := range 300 {
		s := mixed(n, uint32(n))
		wantSum(t, s, sumByDivision(s))
	}
}

// TestSumsTellBitsApart: no change of one bit, or of two within a frame, leaves the sum as it was.
func TestSumsTellBitsApart(t *testing.T) {
	flipped := func(s string, bit int) string {
		return changed(s, bit/8, s[bit/8]^1<<(bit%8))
	}
	s := mixed(api.MaxBody+1, 5)
	seen := map[int]int{frame.Sum(s): -1}
	for bit := range 8 * len(s) {
		sum := frame.Sum(flipped(s, bit))
		if other, ok := seen[sum]; ok {
			t.Fatalf("P8.1: Sum of %x is %x with bit %d changed and with %d", s, sum, bit, other)
		}
		seen[sum] = bit
	}
}

// TestSumOfALongText: a text of any length has a sum, in a time by its length.
func TestSumOfALongText(t *testing.T) {
	long := strings.Repeat(mixed(1<<10, 3), 1<<12)
	got := frame.Sum(long)
	if got < 0 || got > 65535 || got == frame.Sum(long[1:]) {
		t.Errorf("P8.1: %x", got)
	}
	// Behind its own sum a text has sum 0, and each zero more leaves it so.
	closed := long + text(byte(got>>8), byte(got))
	wantSumOfLong := func(s string) {
		if sum := frame.Sum(s); sum != 0 {
			t.Errorf("P8.1: of a text with its sum: %x; want 0", sum)
		}
	}
	wantSumOfLong(closed)
	wantSumOfLong(closed + strings.Repeat("\x00", 1<<10))
}

func TestFramesByHand(t *testing.T) {
	for _, c := range []struct{ body, want string }{
		{"x", "\xb5\x01x\xd1\xa1"}, {"\x00", "\xb5\x01\x00\x2e\x3e"}, {"\xb5", "\xb5\x01\xb5\xd9\x40"},
		{"\xb5\x01", "\xb5\x02\xb5\x01\x53\x25"}, {"abc", "\xb5\x03abc\x82\xca"},
		{strings.Repeat("\x00", 60), "\xb5\x3c" + strings.Repeat("\x00", 60) + "\x67\x83"},
		{strings.Repeat("\xff", 60), "\xb5\x3c" + strings.Repeat("\xff", 60) + "\x5f\x0c"},
	} {
		wantPut(t, c.body, c.want)
		wantGet(t, c.want, 0, c.body, len(c.want))
	}
}

// TestThereAndBack holds bodies of each length against the chapter's words: alone, with bytes of others on both sides, and cut at each place.
func TestThereAndBack(t *testing.T) {
	for _, body := range bodies() {
		s := frameByWords(body)
		wantPut(t, body, s)
		for _, ahead := range []string{"", "\x00", "\xb5", "\xb5\x01", s, strings.Repeat("\xb5\x3c", 9)} {
			for _, behind := range []string{"", "\x00", "\xb5", "\xff\xff", s} {
				wantGet(t, ahead+s+behind, len(ahead), body, len(ahead)+len(s))
			}
			for n := range len(s) {
				wantRefusal(t, ahead+s[:n], len(ahead), api.ErrFrameCut)
			}
		}
	}
}

// TestBodiesThatMayNotBe: an empty one, and ones of more than MaxBody bytes, be their length a byte's or not.
func TestBodiesThatMayNotBe(t *testing.T) {
	for _, n := range []int{0, 61, 62, 64, 100, 127, 128, 181, 255, 256, 257, 316, 317, 512, 65536, 65596, 1 << 20} {
		if s, e := frame.Put(strings.Repeat("x", n)); s != "" || e != api.ErrFrameForm {
			t.Errorf("P8.2: Put of %d bytes: %x, error %d; want error %d", n, s, e, api.ErrFrameForm)
		}
	}
}

// TestWrongPlaces: a place that is none is refused whatever s holds; at s's length more might come.
func TestWrongPlaces(t *testing.T) {
	for _, s := range []string{"", "x", "\xb5", "\xb5\x01", "\xb5\x00", frameByWords("x"), frameByWords("x") + frameByWords("abc"), strings.Repeat("\xb5", 70)} {
		for _, at := range []int{math.MinInt, math.MinInt + 1, -len(s), -256, -2, -1, len(s) + 1, len(s) + 2, len(s) + 256, math.MaxInt - 1, math.MaxInt} {
			if at != 0 {
				wantRefusal(t, s, at, api.ErrFrameForm)
			}
		}
		wantRefusal(t, s, len(s), api.ErrFrameCut)
	}
}

// TestWrongHeads: a wrong Mark, or a length that may not be, is told as soon as it stands there, whatever is behind it.
func TestWrongHeads(t *testing.T) {
	behind := []string{"", "\x00", "\x01", "\xb5", "\xff\xff", mixed(300, 1), frameByWords("x")}
	for b := range 256 {
		for _, more := range behind {
			if b != api.Mark {
				wantRefusal(t, text(byte(b))+more, 0, api.ErrFrameForm)
			}
			if b == 0 || b > api.MaxBody {
				wantRefusal(t, text(api.Mark, byte(b))+more, 0, api.ErrFrameForm)
			}
		}
		if 1 <= b && b <= api.MaxBody {
			wantRefusal(t, text(api.Mark, byte(b)), 0, api.ErrFrameCut)
		}
	}
	// Not even the right Sum mends a length that may not be.
	for _, n := range []int{0, 61, 200, 255} {
		summed := text(byte(n)) + strings.Repeat("x", n)
		sum := sumByDivision(summed)
		wantRefusal(t, "\xb5"+summed+text(byte(sum>>8), byte(sum)), 0, api.ErrFrameForm)
	}
}

// TestWrongSums: just one of all sums is a frame's; a wrong one is told once both its bytes are there, not ahead of that.
func TestWrongSums(t *testing.T) {
	for _, body := range []string{"x", "\x00", mixed(17, 2), mixed(60, 3)} {
		s := frameByWords(body)
		ahead, right := s[:len(s)-2], s[len(s)-2:]
		for sum := range 1 << 16 {
			is := text(byte(sum>>8), byte(sum))
			if is == right {
				wantGet(t, ahead+is, 0, body, len(s))
				continue
			}
			wantRefusal(t, ahead+is, 0, api.ErrFrameForm)
		}
		for b := range 256 {
			wantRefusal(t, ahead+text(byte(b)), 0, api.ErrFrameCut)
		}
	}
}

// TestWrongBytes: with any one byte another one, a frame is none, be it alone or with more behind it.
func TestWrongBytes(t *testing.T) {
	for _, n := range []int{1, 2, 3, 29, 59, 60} {
		s := frameByWords(mixed(n, 7))
		for place := range len(s) {
			for b := range 256 {
				if byte(b) == s[place] {
					continue
				}
				bad := changed(s, place, byte(b))
				wantByWords(t, bad, 0)
				wantByWords(t, bad+strings.Repeat("z", 64), 0)
				if _, _, e := frame.Get(bad, 0); e == api.OK {
					t.Errorf("P8.2: Get(%x, 0): no error", bad)
				}
			}
		}
	}
}

// TestAllSmallTexts holds each text of up to six bytes of an alphabet of those that matter against the chapter's words, at each place.
func TestAllSmallTexts(t *testing.T) {
	alphabet := "\xb5\x00\x01\x02\x3c\x3d\x2e\x3e"
	var grow func(s string)
	grow = func(s string) {
		for at := -1; at <= len(s)+1; at++ {
			wantByWords(t, s, at)
		}
		if len(s) == 6 {
			return
		}
		for i := range len(alphabet) {
			grow(s + alphabet[i:i+1])
		}
	}
	grow("")
}

// TestInARow reads frames one behind the other out of one text, then asks at each of its bytes; the last body is a frame, too.
func TestInARow(t *testing.T) {
	row := append(bodies(), frameByWords("inner"))
	var all strings.Builder
	for _, body := range row {
		all.WriteString(frameByWords(body))
	}
	at := 0
	for _, body := range row {
		wantGet(t, all.String(), at, body, at+len(body)+4)
		at += len(body) + 4
	}
	if at != all.Len() {
		t.Errorf("P8.2: ends at %d of %d", at, all.Len())
	}
	last := at - len(frameByWords("inner")) - 2
	wantGet(t, all.String(), last, "inner", at-2)
	for at := range all.Len() {
		wantByWords(t, all.String(), at)
	}
}

// TestEndlessText: a frame is looked for in its own bytes alone, however many are behind it.
func TestEndlessText(t *testing.T) {
	for _, c := range []struct {
		head string
		want api.Errno
	}{{"\xb5\x3c", api.ErrFrameForm}, {"\xb5\x01", api.ErrFrameForm}, {"\xb5\xb5", api.ErrFrameForm}, {frameByWords("x"), api.OK}} {
		long := strings.Repeat(c.head, 1<<22)
		for n := range 10000 {
			at := n * len(c.head)
			if _, _, e := frame.Get(long, at); e != c.want {
				t.Fatalf("P8.2: Get of %x and so on at %d: error %d; want %d", c.head, at, e, c.want)
			}
		}
	}
}

// TestSharesNoMemory: what is answered is memory of its own, and what is handed in stays as it was (R4).
func TestSharesNoMemory(t *testing.T) {
	within := func(part string, whole string) bool {
		first, at := uintptr(unsafe.Pointer(unsafe.StringData(whole))), uintptr(unsafe.Pointer(unsafe.StringData(part)))
		return first <= at && at < first+uintptr(len(whole))
	}
	for _, body := range bodies() {
		b := []byte(body)
		s, _ := frame.Put(body)
		f := []byte(s)
		got, _, _ := frame.Get(s, 0)
		other, _, _ := frame.Get(s, 0)
		again, _ := frame.Put(body)
		if within(body, s) || within(got, s) || within(s, body) || len(body) > 1 && within(got, other) || within(s, again) {
			t.Fatalf("R4: Put(%x), Get(%x): memory is shared", body, s)
		}
		if !bytes.Equal(b, []byte(body)) || !bytes.Equal(f, []byte(s)) {
			t.Fatalf("R4: %x became %x, %x became %x", b, body, f, s)
		}
	}
}

// TestTogether: plain functions, from several goroutines at one time (R5).
func TestTogether(t *testing.T) {
	row := bodies()
	var all sync.WaitGroup
	for i := range 8 {
		all.Go(func() {
			for _, body := range row[i:] {
				s := frameByWords(body)
				wantSum(t, s[1:len(body)+2], int(s[len(s)-2])<<8|int(s[len(s)-1]))
				wantPut(t, body, s)
				wantGet(t, "ahead"+s+"behind", 5, body, 5+len(s))
			}
		})
	}
	all.Wait()
}
