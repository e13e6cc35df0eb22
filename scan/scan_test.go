package scan_test

import (
	"math"
	"runtime"
	"slices"
	"strings"
	"sync"
	"testing"
	"unsafe"

	"bourne/api"
	"bourne/frame"
	"bourne/scan"
	"bourne/wire"
)

// Frames by hand: a switch, a mark of source 7, a sample, a sample that holds a Mark and a length, and a frame that holds no operation.
const (
	turn   = "\xb5\x01\x04\x6e\xba"
	mark   = "\xb5\x03\x02\x0e\x0a\xf3\x39"
	sample = "\xb5\x05\x00\x02\x04\x05\x08\x02\x44"
	tricky = "\xb5\x06\x00\x00\x00\x02\xb5\x01\xcf\x52"
	noOp   = "\xb5\x01\x7f\xa1\x46"
)

// The operations of these frames.
var (
	opTurn   = api.Op{Kind: api.OpSwitch}
	opMark   = api.Op{Kind: api.OpMark, Source: 7, Time: 5}
	opSample = api.Op{Kind: api.OpSample, Source: 1, Series: 2, Time: -3, Value: 4}
	opTricky = api.Op{Kind: api.OpSample, Time: 1, Value: -91}
)

// bad gives the operation that tells of n bytes that were none.
func bad(n int) api.Op {
	return api.Op{Kind: api.OpBad, Value: n}
}

// framed gives body's frame.
func framed(t *testing.T, body string) string {
	t.Helper()
	s, e := frame.Put(body)
	if e != api.OK {
		t.Fatalf("P8.2: Put(%x): error %d", body, e)
	}
	return s
}

// opFrame gives o's frame.
func opFrame(t *testing.T, o api.Op) string {
	t.Helper()
	body, e := wire.Put(o)
	if e != api.OK {
		t.Fatalf("P9.1: Put(%v): error %d", o, e)
	}
	return framed(t, body)
}

// changed gives s with another byte at a place.
func changed(s string, place int, b byte) string {
	return s[:place] + string([]byte{b}) + s[place+1:]
}

// wantOps holds what a call of the scanner answered against want.
func wantOps(t *testing.T, call string, got []api.Op, want ...api.Op) {
	t.Helper()
	if !slices.Equal(got, want) {
		t.Errorf("P11.1: %s: %v; want %v", call, got, want)
	}
}

// wantKept holds what the scanner keeps against want.
func wantKept(t *testing.T, x *scan.Scanner, waits string, bad int) {
	t.Helper()
	if x.Waits() != waits || x.Bad() != bad {
		t.Errorf("P11.2: Waits %x, Bad %d; want %x, %d", x.Waits(), x.Bad(), waits, bad)
	}
}

// loaded gives a scanner of which these are so.
func loaded(t *testing.T, waits string, bad int) *scan.Scanner {
	t.Helper()
	x, e := scan.Load(waits, bad)
	if e != api.OK || x == nil {
		t.Fatalf("P11.2: Load(%x, %d): error %d", waits, bad, e)
	}
	wantKept(t, x, waits, bad)
	return x
}

// wantNoLoad holds Load's answer against the refusal, beside which there is no scanner (R2).
func wantNoLoad(t *testing.T, waits string, bad int) {
	t.Helper()
	if x, e := scan.Load(waits, bad); x != nil || e != api.ErrScanForm {
		t.Errorf("P11.2: Load(%x, %d): %v, error %d; want none, error %d", waits, bad, x, e, api.ErrScanForm)
	}
}

// kept is what comes of some bytes, and what is kept of them.
type kept struct {
	ops   []api.Op
	waits string
	bad   int
}

// byWords reads s by the chapter's words, all at once; closed tells whether nothing comes behind it.
func byWords(s string, closed bool) kept {
	var out kept
	for s != "" {
		body, end, e := frame.Get(s, 0)
		if e == api.ErrFrameCut && !closed {
			out.waits = s
			return out
		}
		o, f := wire.Get(body)
		if e != api.OK || f != api.OK {
			out.bad++
			s = s[1:]
			continue
		}
		if out.bad > 0 {
			out.ops = append(out.ops, bad(out.bad))
		}
		out.ops = append(out.ops, o)
		out.bad = 0
		s = s[end:]
	}
	if closed && out.bad > 0 {
		out.ops = append(out.ops, bad(out.bad))
		out.bad = 0
	}
	return out
}

// wantCut writes pieces, one behind the other, and holds what came and what is kept behind each against the chapter's words; then it closes.
func wantCut(t *testing.T, pieces ...string) {
	t.Helper()
	x := scan.New()
	var came []api.Op
	written := ""
	for _, piece := range pieces {
		came = append(came, x.Write(piece)...)
		written += piece
		want := byWords(written, false)
		if !slices.Equal(came, want.ops) || x.Waits() != want.waits || x.Bad() != want.bad {
			t.Fatalf("P11.3: of %x: %v, Waits %x, Bad %d; want %v", pieces, came, x.Waits(), x.Bad(), want)
		}
	}
	came = append(came, x.Close()...)
	if want := byWords(written, true); !slices.Equal(came, want.ops) {
		t.Fatalf("P11.1: of %x, closed: %v; want %v", pieces, came, want.ops)
	}
	wantKept(t, x, "", 0)
}

// mixture gives a text of operations, of bytes that are none, and of both in one another, another one for each seed.
func mixture(t *testing.T, seed uint32, parts int) string {
	t.Helper()
	next := func(n int) int {
		seed = seed*1664525 + 1013904223
		return int(seed>>8) % n
	}
	long := framed(t, "\x7f"+turn+sample)
	row := []string{
		turn, mark, sample, tricky, noOp, long, "\xb5", "\xb5\xb5", "\xb5\x00", "\xb5\x3d", "\xb5\x3c", "\xb5\x07", "\x00", "none at all",
		turn[:4], mark[:2], sample[:7], tricky[4:], changed(mark, 6, 0), changed(sample, 4, 0xb5), changed(long, 2, 1),
	}
	s := ""
	for range parts {
		s += row[next(len(row))]
		if next(4) == 0 {
			s += string([]byte{byte(next(256))})
		}
	}
	return s
}

func TestNew(t *testing.T) {
	x := scan.New()
	wantKept(t, x, "", 0)
	wantOps(t, "Close of nothing", x.Close())
	wantOps(t, "Write of nothing", x.Write(""))
	wantKept(t, x, "", 0)
	wantOps(t, "Write", x.Write(turn), opTurn)
	wantKept(t, scan.New(), "", 0)
}

// TestByHand writes row by row, and holds what comes, what is kept behind it, and what comes when it is closed.
func TestByHand(t *testing.T) {
	for _, c := range []struct {
		s      string
		ops    []api.Op
		waits  string
		bad    int
		closed []api.Op
	}{
		{turn, []api.Op{opTurn}, "", 0, nil},
		{mark, []api.Op{opMark}, "", 0, nil},
		{sample, []api.Op{opSample}, "", 0, nil},
		{tricky, []api.Op{opTricky}, "", 0, nil},
		{turn + mark + sample + tricky, []api.Op{opTurn, opMark, opSample, opTricky}, "", 0, nil},
		{"x", nil, "", 1, []api.Op{bad(1)}},
		{"some bytes", nil, "", 10, []api.Op{bad(10)}},
		{"x" + turn, []api.Op{bad(1), opTurn}, "", 0, nil},
		{"xyz" + turn + "uv" + mark + "w", []api.Op{bad(3), opTurn, bad(2), opMark}, "", 1, []api.Op{bad(1)}},
		{turn[:1], nil, turn[:1], 0, []api.Op{bad(1)}},
		{turn[:4], nil, turn[:4], 0, []api.Op{bad(4)}},
		{turn[1:], nil, "", 4, []api.Op{bad(4)}},
		{mark + "x" + sample[:8], []api.Op{opMark}, sample[:8], 1, []api.Op{bad(9)}},
		{noOp, nil, "", 5, []api.Op{bad(5)}},
		{noOp + turn, []api.Op{bad(5), opTurn}, "", 0, nil},
		{"\xb5\x00" + turn, []api.Op{bad(2), opTurn}, "", 0, nil},
		{"\xb5\x3d" + turn, []api.Op{bad(2), opTurn}, "", 0, nil},
		{"\xb5" + turn, []api.Op{bad(1), opTurn}, "", 0, nil},
		{"\xb5\xb5\xb5" + turn, []api.Op{bad(3), opTurn}, "", 0, nil},
		// What promises much waits with what is behind it, until it is closed.
		{"x\xb5\x3c" + turn + "y" + mark, nil, "\xb5\x3c" + turn + "y" + mark, 1, []api.Op{bad(3), opTurn, bad(1), opMark}},
		{"\xb5\x08" + turn + "y", nil, "\xb5\x08" + turn + "y", 0, []api.Op{bad(2), opTurn, bad(1)}},
		// All of it there, but with a wrong sum: its bytes are looked at one by one.
		{"\xb5\x03" + turn, []api.Op{bad(2), opTurn}, "", 0, nil},
		{"\xb5\x04" + turn + "y" + mark, []api.Op{bad(2), opTurn, bad(1), opMark}, "", 0, nil},
	} {
		x := scan.New()
		wantOps(t, "Write", x.Write(c.s), c.ops...)
		wantKept(t, x, c.waits, c.bad)
		wantOps(t, "Close", x.Close(), c.closed...)
		wantKept(t, x, "", 0)
	}
}

// TestWithinFrames: of a frame that holds no operation just the first byte is none, and one that stands within it comes; of one that is an operation all bytes are read.
func TestWithinFrames(t *testing.T) {
	for _, c := range []struct {
		s    string
		want []api.Op
	}{
		{framed(t, turn), []api.Op{bad(2), opTurn, bad(2)}},
		{framed(t, "\x7f"+turn+mark), []api.Op{bad(3), opTurn, opMark, bad(2)}},
		{framed(t, framed(t, "x"+turn)+"yz"), []api.Op{bad(5), opTurn, bad(6)}},
		{framed(t, noOp), []api.Op{bad(9)}},
		{tricky + turn, []api.Op{opTricky, opTurn}},
		{tricky[3:] + turn, []api.Op{bad(7), opTurn}},
	} {
		x := scan.New()
		came := append(x.Write(c.s), x.Close()...)
		wantOps(t, "Write, Close", came, c.want...)
	}
}

// TestCountsOn: bytes that were none are counted on through as many calls as they came by, up to the next operation.
func TestCountsOn(t *testing.T) {
	x := scan.New()
	wantOps(t, "Write", x.Write("ab"))
	wantKept(t, x, "", 2)
	wantOps(t, "Write", x.Write(""))
	wantOps(t, "Write", x.Write("c\xb5"))
	wantKept(t, x, "\xb5", 3)
	wantOps(t, "Write", x.Write("\x00"))
	wantKept(t, x, "", 5)
	wantOps(t, "Write", x.Write(turn[:3]))
	wantOps(t, "Write", x.Write(""))
	wantKept(t, x, turn[:3], 5)
	wantOps(t, "Write", x.Write(turn[3:]+"d"), bad(5), opTurn)
	wantKept(t, x, "", 1)
	wantOps(t, "Close", x.Close(), bad(1))
	wantKept(t, x, "", 0)
}

// TestClose: behind it the scanner is as a new one, whatever was kept.
func TestClose(t *testing.T) {
	for _, s := range []string{"", "x", turn, "x" + turn, turn[:4], "x" + turn[:4], "\xb5\x3c" + turn, "\xb5\x3c" + turn + mark[:5], "\xb5\x09" + turn + turn[:2]} {
		x := scan.New()
		x.Write(s)
		x.Close()
		wantKept(t, x, "", 0)
		wantOps(t, "Close once more", x.Close())
		// What is left of a frame is none, as what was ahead of it is told.
		wantOps(t, "Write", x.Write(turn[4:]+mark), bad(1), opMark)
		wantKept(t, x, "", 0)
	}
}

// TestEachCut writes texts in three pieces, cut at each two places, and byte by byte.
func TestEachCut(t *testing.T) {
	for seed := range 12 {
		s := mixture(t, uint32(seed), 6)
		for i := range len(s) + 1 {
			for j := i; j <= len(s); j++ {
				wantCut(t, s[:i], s[i:j], s[j:])
			}
		}
		wantCut(t, strings.Split(s, "")...)
	}
}

// TestManyCuts writes longer texts in pieces of each length.
func TestManyCuts(t *testing.T) {
	for seed := range 40 {
		s := mixture(t, uint32(seed)+1000, 40)
		for n := 1; n < 70; n += 1 + seed%7 {
			var pieces []string
			for piece := range slices.Chunk([]byte(s), n) {
				pieces = append(pieces, string(piece))
			}
			wantCut(t, pieces...)
		}
	}
}

// TestAllSmallTexts holds each text of up to seven bytes of an alphabet of those that matter to a switch, whole and byte by byte.
func TestAllSmallTexts(t *testing.T) {
	alphabet := "\xb5\x01\x04\x6e\xba"
	var grow func(s string, bytes []string)
	grow = func(s string, bytes []string) {
		wantCut(t, s)
		wantCut(t, bytes...)
		if len(s) == 7 {
			return
		}
		for i := range len(alphabet) {
			grow(s+alphabet[i:i+1], append(bytes, alphabet[i:i+1]))
		}
	}
	grow("", nil)
}

// TestWrongBytes: with any one byte another one, a frame is none, and the one behind it comes all the same.
func TestWrongBytes(t *testing.T) {
	for _, f := range []string{turn, mark, sample, opFrame(t, api.Op{Source: 7, Series: api.MaxId, Time: -api.MaxTime, Value: api.MaxValue})} {
		for place := range len(f) {
			for b := range 256 {
				if byte(b) == f[place] {
					continue
				}
				s := changed(f, place, byte(b))
				x := scan.New()
				came := append(x.Write(s+turn), x.Close()...)
				wantOps(t, "Write, Close", came, bad(len(f)), opTurn)
				wantCut(t, s[:place], s[place:]+turn)
			}
		}
	}
}

// TestBodiesOfNoOperation: a frame of a body that layer 9 does not read is none.
func TestBodiesOfNoOperation(t *testing.T) {
	for _, body := range []string{
		"\x00", "\x01", "\x02", "\x06", "\x06\x0a", "\x08", "\x04\x00", "\x84\x00", "\x04\x04", "\x02\x10\x0a", "\x02\x01\x0a", "\x02\x0e", "\x02\x0e\x0a\x00",
		"\x00\x00\x00\x02\x00\x00", "\x00\x10\x04\x05\x08", "\x00\x02\x03\x05\x08", strings.Repeat("\x04", 60), strings.Repeat("\xff", 60),
	} {
		s := framed(t, body)
		x := scan.New()
		wantOps(t, "Write", x.Write(s))
		wantKept(t, x, "", len(s))
		wantOps(t, "Write", x.Write(mark+s+s), bad(len(s)), opMark)
		wantOps(t, "Close", x.Close(), bad(2*len(s)))
	}
}

// TestEachOperation: each Kind at the ends of its numbers comes as it was put.
func TestEachOperation(t *testing.T) {
	s := ""
	var want []api.Op
	add := func(o api.Op) {
		s += opFrame(t, o)
		want = append(want, o)
	}
	add(opTurn)
	for _, source := range []int{0, 1, api.MaxSources - 1} {
		for _, time := range []int{api.NoMark + 1, -1, 0, 1, api.MaxMark} {
			add(api.Op{Kind: api.OpMark, Source: source, Time: time})
		}
		for _, series := range []int{0, 1, api.MaxId} {
			for _, time := range []int{-api.MaxTime, -91, 0, api.MaxTime} {
				for _, value := range []int{-api.MaxValue, -91, 0, api.MaxValue} {
					add(api.Op{Source: source, Series: series, Time: time, Value: value})
				}
			}
		}
	}
	x := scan.New()
	wantOps(t, "Write", x.Write(s), want...)
	var came []api.Op
	for i := range len(s) {
		came = append(came, x.Write(s[i:i+1])...)
	}
	wantOps(t, "Write by bytes", came, want...)
	wantKept(t, x, "", 0)
}

// TestMoreThanMaxBad: of more bytes that were none MaxBad are counted.
func TestMoreThanMaxBad(t *testing.T) {
	for _, ahead := range []int{api.MaxBad - 5, api.MaxBad - 2, api.MaxBad - 1, api.MaxBad} {
		for _, s := range []string{"", "x", "yz", "three", noOp, noOp + noOp} {
			want := min(ahead+len(s), api.MaxBad)
			x := loaded(t, "", ahead)
			wantOps(t, "Write", x.Write(s))
			wantKept(t, x, "", want)
			wantOps(t, "Write", x.Write(turn+"x"), bad(want), opTurn)
			wantKept(t, x, "", 1)

			x = loaded(t, "", ahead)
			wantOps(t, "Write", x.Write(s+turn), bad(want), opTurn)
			wantKept(t, x, "", 0)

			x = loaded(t, "", ahead)
			x.Write(s)
			wantOps(t, "Close", x.Close(), bad(want))
			wantKept(t, x, "", 0)
		}
	}
	x := loaded(t, "\xb5\x3cxy"+turn, api.MaxBad-3)
	wantOps(t, "Close", x.Close(), bad(api.MaxBad), opTurn)
	x = loaded(t, "\xb5\x3cxy", api.MaxBad)
	wantOps(t, "Close", x.Close(), bad(api.MaxBad))
	wantKept(t, x, "", 0)
}

// TestLoads: whatever layer 8's Get tells cut may wait, none too, beside as many as may be none.
func TestLoads(t *testing.T) {
	for _, n := range []int{0, 1, 2, 100, api.MaxBad - 1, api.MaxBad} {
		loaded(t, "", n)
		for _, f := range []string{noOp, framed(t, strings.Repeat("\xb5", 60)), framed(t, turn+mark)} {
			for cut := range len(f) {
				loaded(t, f[:cut], n)
			}
		}
		var ahead []api.Op
		if n > 0 {
			ahead = append(ahead, bad(n))
		}
		for _, o := range []api.Op{opTurn, opMark, opSample, opTricky} {
			f := opFrame(t, o)
			for cut := range len(f) {
				x := loaded(t, f[:cut], n)
				wantOps(t, "Write", x.Write(f[cut:]), append(slices.Clone(ahead), o)...)
				wantKept(t, x, "", 0)
			}
		}
		x := loaded(t, "\xb5\x05"+turn, n)
		wantOps(t, "Write", x.Write("ab"), bad(min(n+2, api.MaxBad)), opTurn)
		wantKept(t, x, "", 2)
	}
}

// TestNoLoads: what does not wait, and numbers of bytes that may not be.
func TestNoLoads(t *testing.T) {
	for _, n := range []int{math.MinInt, -api.MaxBad, -2, -1, api.MaxBad + 1, api.MaxBad + 2, 1 << 31, 1 << 32, math.MaxInt} {
		for _, waits := range []string{"", "\xb5", turn[:4], "x", turn} {
			wantNoLoad(t, waits, n)
		}
	}
	for _, n := range []int{0, 1, api.MaxBad} {
		for _, waits := range []string{
			turn, mark, sample, noOp, turn + "x", turn + "\xb5", turn + turn[:4], "x", "x\xb5", "\xb5\x00", "\xb5\x3d", "\xb5\xb5", "\xb5\xb5\x01",
			changed(turn, 3, 0), changed(turn, 4, 0), changed(mark, 0, 0xb4), turn[1:], turn[:4] + "x\xb5",
			"\xb5\x3c" + strings.Repeat("x", 62), "\xb5\x3c" + strings.Repeat("x", 1<<16), "\x00", strings.Repeat("\x00", 63),
		} {
			wantNoLoad(t, waits, n)
		}
		for b := range 256 {
			if b != api.Mark {
				wantNoLoad(t, string([]byte{byte(b)}), n)
			}
			if b == 0 || b > api.MaxBody {
				wantNoLoad(t, string([]byte{api.Mark, byte(b)}), n)
			}
		}
		loaded(t, "\xb5\x3c"+strings.Repeat("x", 61), n)
	}
}

// TestSaved: a scanner of what another one keeps goes on as that one, from each place of a text.
func TestSaved(t *testing.T) {
	for seed := range 20 {
		s := mixture(t, uint32(seed)+500, 8)
		for at := range len(s) {
			x := scan.New()
			x.Write(s[:at])
			y := loaded(t, x.Waits(), x.Bad())
			wantOps(t, "Write behind Load", y.Write(s[at:]), x.Write(s[at:])...)
			wantKept(t, y, x.Waits(), x.Bad())
			wantOps(t, "Close behind Load", y.Close(), x.Close()...)
		}
	}
}

// TestKeepsLittle: whatever comes, fewer bytes wait than a frame has, each Write ends in the time of its bytes, and nothing is lost (T5).
func TestKeepsLittle(t *testing.T) {
	frames := opFrame(t, opTurn)
	for _, part := range []string{"\xb5\x3c", "\xb5", "\x00", "\xb5\x3c\xb5\x01", "\xb5\x3c" + strings.Repeat("\xb5", 3), noOp, frames, "\xb5\x3c" + frames} {
		s := strings.Repeat(part, (1<<18)/len(part))
		whole := scan.New()
		ops := whole.Write(s)
		byBytes := scan.New()
		var came []api.Op
		for i := range len(s) {
			came = append(came, byBytes.Write(s[i:i+1])...)
			if n := len(byBytes.Waits()); n > api.MaxBody+3 {
				t.Fatalf("P11.2: of %x and so on %d bytes wait", part, n)
			}
		}
		if !slices.Equal(ops, came) || whole.Waits() != byBytes.Waits() || whole.Bad() != byBytes.Bad() {
			t.Errorf("P11.3: of %x and so on: whole Bad %d, Waits %x; by bytes Bad %d, Waits %x", part, whole.Bad(), whole.Waits(), byBytes.Bad(), byBytes.Waits())
		}
		read := 0
		for _, o := range append(ops, whole.Close()...) {
			if o.Kind == api.OpBad {
				read += o.Value
				continue
			}
			read += len(opFrame(t, o))
		}
		if read != len(s) {
			t.Errorf("P11.1: of %x and so on %d bytes were told of; want %d", part, read, len(s))
		}
	}
}

// TestNil: no scanner answers zero values (R3).
func TestNil(t *testing.T) {
	var x *scan.Scanner
	for _, s := range []string{"", "x", turn, turn[:3]} {
		if got := x.Write(s); got != nil {
			t.Errorf("R3: Write(%x): %v", s, got)
		}
		if got := x.Close(); got != nil || x.Waits() != "" || x.Bad() != 0 {
			t.Errorf("R3: Close: %v, Waits %x, Bad %d", got, x.Waits(), x.Bad())
		}
	}
}

// TestSharesNoMemory: what waits is memory of its own, and lists that were answered are the caller's (R4).
func TestSharesNoMemory(t *testing.T) {
	within := func(part string, whole string) bool {
		first, at := uintptr(unsafe.Pointer(unsafe.StringData(whole))), uintptr(unsafe.Pointer(unsafe.StringData(part)))
		return first <= at && at < first+uintptr(len(whole))
	}
	s := strings.Clone(turn + mark + sample[:5])
	x := scan.New()
	ops := x.Write(s)
	ops = append(ops[:0], bad(1), bad(2))
	waits := x.Waits()
	if within(waits, s) || within(waits, x.Waits()) {
		t.Error("R4: what waits is memory of what was written, or of another answer")
	}
	y, _ := scan.Load(waits, 0)
	if within(y.Waits(), waits) || within(y.Waits(), y.Waits()) {
		t.Error("R4: what waits is memory of what was loaded, or of another answer")
	}
	again := x.Write(sample[5:] + turn)
	wantOps(t, "Write", again, opSample, opTurn)
	wantOps(t, "Write ahead of it", ops, bad(1), bad(2))
	again[0], again[1] = bad(3), bad(4)
	wantOps(t, "Write", x.Write(turn+mark), opTurn, opMark)
	wantOps(t, "Close", x.Close())
}

// TestForgets: of a long text no more is kept than waits (R4).
func TestForgets(t *testing.T) {
	inUse := func() int {
		var now runtime.MemStats
		runtime.GC()
		runtime.ReadMemStats(&now)
		return int(now.HeapAlloc)
	}
	const length = 1 << 24
	long := func() string {
		return strings.Repeat("\x00", length) + turn[:3]
	}
	ahead := inUse()
	x := scan.New()
	x.Write(long())
	y := loaded(t, long()[length:], 0)
	if more := inUse() - ahead; more > length/2 {
		t.Errorf("R4: %d bytes are kept", more)
	}
	wantKept(t, x, turn[:3], length)
	wantKept(t, y, turn[:3], 0)
}

// TestApart: scanners keep nothing together, and a Load that is refused changes none.
func TestApart(t *testing.T) {
	x, y := scan.New(), scan.New()
	wantOps(t, "Write", x.Write("x"+turn[:2]))
	wantOps(t, "Write", y.Write(turn[2:]))
	wantNoLoad(t, turn, 0)
	wantKept(t, x, turn[:2], 1)
	wantKept(t, y, "", 3)
	wantOps(t, "Write", x.Write(turn[2:]), bad(1), opTurn)
	wantOps(t, "Close", y.Close(), bad(3))
}

// TestTogether: scanners of several goroutines, made by plain functions, at one time (R5).
func TestTogether(t *testing.T) {
	s := mixture(t, 77, 300)
	want := byWords(s, true)
	var all sync.WaitGroup
	for i := range 8 {
		all.Go(func() {
			x := scan.New()
			var came []api.Op
			for piece := range slices.Chunk([]byte(s), i+1) {
				came = append(came, x.Write(string(piece))...)
				y, e := scan.Load(x.Waits(), x.Bad())
				if e != api.OK {
					t.Errorf("P11.2: Load(%x, %d): error %d", x.Waits(), x.Bad(), e)
					return
				}
				x = y
			}
			wantOps(t, "Write, Close", append(came, x.Close()...), want.ops...)
		})
	}
	all.Wait()
}
