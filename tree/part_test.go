package tree

import (
	"reflect"
	"slices"
	"testing"

	"bourne/acc"
	"bourne/api"
	"bourne/rules"
)

// wantShape holds each part against what it must be: its aggregate that of its items in their row, neither side too heavy for the other.
func wantShape(t *testing.T, x *Tree) {
	t.Helper()
	row := x.Items()
	if !slices.IsSortedFunc(row, rules.Compare) {
		t.Fatalf("P19.2: Items: %v", row)
	}
	wantPart(t, x.bounds, x.root, row)
}

// wantPart holds p, which has the items of row, against what it must be.
func wantPart(t *testing.T, bounds []int, p *part, row []api.Item) {
	t.Helper()
	if p == nil {
		return
	}
	ones := make([]api.Acc, 0, len(row))
	for _, y := range row {
		one, _ := acc.One(y, bounds)
		ones = append(ones, one)
	}
	if want, _ := acc.Join(bounds, ones...); !reflect.DeepEqual(p.all, want) {
		t.Fatalf("a part's aggregate: %v; want %v", p.all, want)
	}
	if tooHeavy(p.ahead, p.behind) || tooHeavy(p.behind, p.ahead) {
		t.Fatalf("of %d items %d are ahead, %d behind", p.count(), p.ahead.count(), p.behind.count())
	}
	wantPart(t, bounds, p.ahead, row[:p.ahead.count()])
	wantPart(t, bounds, p.behind, row[p.ahead.count()+1:])
}

// shapes gives a tree of each shape that n items may have, each of an even Time from first on, and of Seq 1.
func shapes(x *Tree, n int, first int) []*part {
	if n == 0 {
		return []*part{nil}
	}
	var out []*part
	for k := range n {
		// How heavy the sides are hangs on how many items they have, not on their shape.
		if k+1 > mostTimes*(n-k) || n-k > mostTimes*(k+1) {
			continue
		}
		item := api.Item{Series: 3, Time: first + 2*k, Seq: 1, Value: k}
		for _, ahead := range shapes(x, k, first) {
			for _, behind := range shapes(x, n-1-k, item.Time+2) {
				out = append(out, x.put(ahead, item, behind))
			}
		}
	}
	return out
}

// TestEachShape: out of each shape that some items may have, an item more at each place, and an Evict at each place, leave one that may be.
func TestEachShape(t *testing.T) {
	for n := range 11 {
		x, _ := New([]int{2})
		all := shapes(x, n, 0)
		if len(all) == 0 {
			t.Fatalf("no shape of %d items", n)
		}
		for _, root := range all {
			for place := range n + 1 {
				x.root = root
				wantShape(t, x)
				x.Insert(api.Item{Series: 3, Time: 2*place - 1, Seq: 1})
				if len(x.Items()) != n+1 {
					t.Fatalf("P19.1: of %d items and one more: %d", n, len(x.Items()))
				}
				wantShape(t, x)
				x.root = root
				if gone := x.Evict(2 * place); gone != place || len(x.Items()) != n-place {
					t.Fatalf("P19.2: of %d items %d are gone, want %d", n, gone, place)
				}
				wantShape(t, x)
			}
		}
	}
}

// TestRowsOfInserts: whatever the row in which many items come, and wherever they are cut, no side gets too heavy.
func TestRowsOfInserts(t *testing.T) {
	const n = 700
	for name, at := range map[string]func(i int) int{
		"rising":          func(i int) int { return i },
		"falling":         func(i int) int { return -i },
		"from both ends":  func(i int) int { return (i%2*2 - 1) * (n - i) },
		"out of a middle": func(i int) int { return (i%2*2 - 1) * i },
		"all over":        func(i int) int { return i * 389 % n },
		"of one time":     func(i int) int { return 0 },
		"in runs":         func(i int) int { return i/50*1000 - i%50 },
		"to and fro":      func(i int) int { return i % 7 * 100 },
	} {
		t.Run(name, func(t *testing.T) {
			x, _ := New(nil)
			for i := range n {
				x.Insert(api.Item{Series: 3, Time: at(i), Seq: 1 + i})
				if i%23 == 0 {
					wantShape(t, x)
				}
			}
			row := x.Items()
			whole := x.root
			for i := 0; i < n; i += 9 {
				x.root = whole
				x.Evict(row[i].Time)
				wantShape(t, x)
				x.Evict(row[i+(n-i)/2].Time)
				wantShape(t, x)
			}
		})
	}
}

// TestInsertsAndEvicts: as many come as go, for long.
func TestInsertsAndEvicts(t *testing.T) {
	x, _ := New([]int{-3, 3})
	s := uint32(5)
	next := func(n int) int {
		s = s*1664525 + 1013904223
		return int(s>>8) % n
	}
	seq := 0
	for round := range 3000 {
		for range next(12) {
			seq++
			x.Insert(api.Item{Series: 3, Time: round + next(40)*next(40), Seq: seq, Value: next(11) - 5})
		}
		if next(3) == 0 {
			x.Evict(round + next(9))
		}
		if round%20 == 0 {
			wantShape(t, x)
		}
	}
}

// TestShortCalls: a call goes into few parts, however many items there are: of a span it joins few aggregates.
func TestShortCalls(t *testing.T) {
	x, _ := New(nil)
	for i := range api.MaxItems {
		x.Insert(api.Item{Series: 3, Time: i, Seq: 1})
	}
	wantShape(t, x)
	for start := 0; start < api.MaxItems; start += 13 {
		for end := start; end <= api.MaxItems; end += 501 {
			as := x.within(x.root, api.Span{Start: start, End: end}, nil)
			if len(as) > 64 {
				t.Fatalf("from %d to below %d: %d aggregates", start, end, len(as))
			}
		}
	}
}
