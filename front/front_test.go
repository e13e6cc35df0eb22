package front_test

import (
	"math"
	"reflect"
	"slices"
	"testing"

	"bourne/api"
	"bourne/front"
)

// errors are numbers that no layer has, so that none comes from elsewhere.
var errors = front.Errors{Form: 7001, Late: 7002}

// config gives one that may be, of this lateness.
func config(late int) api.Config {
	return api.Config{Queries: []api.Query{{Size: 10}, {Agg: api.AggHist, Size: 5, Bounds: []int{1, 2}}}, Late: late, Room: 1, Series: 1, Sources: 1}
}

// made gives a front of this lateness.
func made(t *testing.T, late int) *front.Front {
	t.Helper()
	f, e := front.New(config(late), errors)
	if e != api.OK {
		t.Fatalf("New: error %d", e)
	}
	return &f
}

// at gives an item.
func at(time int, seq int) api.Item {
	return api.Item{Time: time, Seq: seq}
}

func TestNew(t *testing.T) {
	c := config(3)
	f, e := front.New(c, errors)
	if e != api.OK || !reflect.DeepEqual(f.Queries(), config(3).Queries) || f.Line() != api.NoMark {
		t.Fatalf("New: %v, error %d", f, e)
	}
	c.Queries[0].Size = 0
	c.Queries[1].Bounds[0] = 99
	if !reflect.DeepEqual(f.Queries(), config(3).Queries) {
		t.Errorf("New: keeps what was handed in: %v", f.Queries())
	}
	if f, e := front.New(api.Config{}, errors); !reflect.DeepEqual(f, front.Front{}) || e != errors.Form {
		t.Errorf("New: %v, error %d", f, e)
	}
}

func TestAdmit(t *testing.T) {
	f := made(t, 5)
	for i, step := range []struct {
		held int
		xs   []api.Item
		want api.Errno
	}{
		{0, nil, api.OK},
		{0, []api.Item{at(-api.MaxTime, 5), at(9, 7)}, api.OK},
		{2, []api.Item{at(9, 7)}, errors.Form},
		{2, []api.Item{at(9, 9), at(9, 8)}, errors.Form},
		{2, []api.Item{at(9, 9), at(9, 9)}, errors.Form},
		{2, []api.Item{at(9, 8), at(api.MaxTime+1, 9)}, errors.Form},
		{api.MaxItems, []api.Item{at(9, 8)}, errors.Form},
		{api.MaxItems - 1, []api.Item{at(9, 8), at(9, 9)}, errors.Form},
		{api.MaxItems, nil, api.OK},
		{api.MaxItems - 1, []api.Item{at(9, 8)}, api.OK},
		{0, []api.Item{at(9, api.MaxSeq)}, api.OK},
		{0, []api.Item{at(9, api.MaxSeq)}, errors.Form},
	} {
		if e := f.Admit(step.held, step.xs); e != step.want {
			t.Errorf("step %d: error %d; want %d", i, e, step.want)
		}
	}
}

func TestLate(t *testing.T) {
	f := made(t, 5)
	if e := f.Advance(12); e != api.OK || f.Line() != 7 {
		t.Fatalf("Advance: error %d, line %d", e, f.Line())
	}
	for i, step := range []struct {
		xs   []api.Item
		want api.Errno
	}{
		{[]api.Item{at(6, 3)}, errors.Late},
		{[]api.Item{at(7, 3), at(6, 4)}, errors.Late},
		{[]api.Item{at(6, 3), at(7, 4)}, errors.Late},
		{[]api.Item{at(6, 3), at(7, 3)}, errors.Form},
		{[]api.Item{at(7, 3), at(7, 4)}, api.OK},
		{[]api.Item{at(6, 4)}, errors.Form},
		{[]api.Item{at(6, 5)}, errors.Late},
	} {
		if e := f.Admit(0, step.xs); e != step.want {
			t.Errorf("step %d: error %d; want %d", i, e, step.want)
		}
	}
}

func TestAdvance(t *testing.T) {
	f := made(t, 0)
	line := api.NoMark
	for i, step := range []struct {
		least int
		want  api.Errno
	}{
		{math.MinInt, errors.Form}, {api.NoMark - 1, errors.Form}, {api.NoMark, api.OK}, {-3, api.OK}, {-4, errors.Form}, {api.NoMark, errors.Form},
		{-3, api.OK}, {8, api.OK}, {7, errors.Form}, {api.MaxMark + 1, errors.Form}, {math.MaxInt, errors.Form}, {api.MaxMark, api.OK}, {api.MaxMark - 1, errors.Form}, {api.MaxMark, api.OK},
	} {
		if e := f.Advance(step.least); e != step.want {
			t.Errorf("step %d: error %d; want %d", i, e, step.want)
		}
		if step.want == api.OK {
			line = step.least
		}
		if f.Line() != line {
			t.Errorf("step %d: line %d; want %d", i, f.Line(), line)
		}
	}
}

// TestLong: a list without end is refused without being gone through.
func TestLong(t *testing.T) {
	f := made(t, 0)
	xs := slices.Repeat([]api.Item{at(0, 1)}, 1<<20)
	for range 100000 {
		if e := f.Admit(0, xs); e != errors.Form {
			t.Fatalf("error %d", e)
		}
	}
}
