package lazy

import (
	"slices"

	"bourne/api"
	"bourne/ask"
	"bourne/front"
	"bourne/rules"
	"bourne/tree"
)

// run is what an engine does: behind its front each item goes into the row of its series.
type run struct {
	front.Front
	// rows: by series, of each that has an item which is held.
	rows map[int]*row
	// held: how many items all rows hold.
	held int
}

// row holds one series' items that are in some window which is not out, and what each query asks of them.
type row struct {
	// trees: one of each Bounds that a query has. Each has all items.
	trees []*tree.Tree
	lanes []lane
}

// begin gives a run behind this front, which holds nothing.
func begin(ahead front.Front) *run {
	return &run{Front: ahead, rows: map[int]*row{}}
}

// feed takes all xs in, or none.
func (r *run) feed(xs []api.Item) api.Errno {
	if errno := r.Admit(r.held, xs); errno != api.OK {
		return errno
	}
	for _, x := range xs {
		r.rowOf(x.Series).put(x)
	}
	r.held += len(xs)
	return api.OK
}

// tell gives the windows that end at the line or ahead of it and have not gone out, and lets go what is in no other.
func (r *run) tell() []api.Result {
	line := r.Line()
	var out []api.Result
	for series, row := range r.rows {
		out = row.tell(line, out)
		gone, left := row.settle()
		r.held -= gone
		if !left {
			delete(r.rows, series)
		}
	}
	slices.SortFunc(out, rules.CompareResults)
	return out
}

// items gives all that is held, by Time, then by Seq.
func (r *run) items() []api.Item {
	var out []api.Item
	for _, row := range r.rows {
		out = append(out, row.trees[0].Items()...)
	}
	slices.SortFunc(out, rules.Compare)
	return out
}

// rowOf gives the row of a series, a new one if there is none.
func (r *run) rowOf(series int) *row {
	if r.rows[series] == nil {
		made := &row{}
		for place, q := range r.Queries() {
			made.add(ask.Ask{Query: q, Place: place, Series: series})
		}
		r.rows[series] = made
	}
	return r.rows[series]
}

// add puts in a lane of what is asked, on the tree of its Bounds.
func (w *row) add(a ask.Ask) {
	items := w.treeOf(a.Bounds)
	if items == nil {
		items, _ = tree.New(a.Bounds)
		w.trees = append(w.trees, items)
	}
	w.lanes = append(w.lanes, newLane(a, items))
}

// treeOf gives the tree of these bounds, nil if there is none.
func (w *row) treeOf(bounds []int) *tree.Tree {
	for _, l := range w.lanes {
		if slices.Equal(l.Bounds, bounds) {
			return l.Tree
		}
	}
	return nil
}

// put puts x in, wherever it stands in the row.
func (w *row) put(x api.Item) {
	for _, items := range w.trees {
		items.Insert(x)
	}
	for i := range w.lanes {
		w.lanes[i].see(x.Time)
	}
}

// tell gives out with the windows of the row that end at the line or ahead of it behind.
func (w *row) tell(line int, out []api.Result) []api.Result {
	for i := range w.lanes {
		out = w.lanes[i].tell(line, out)
	}
	return out
}

// settle lets go the items that stand ahead of each lane's next window, and gives how many, and whether any is left.
func (w *row) settle() (int, bool) {
	below := never
	for _, l := range w.lanes {
		below = min(below, l.next.Start)
	}
	gone := 0
	for _, items := range w.trees {
		gone = items.Evict(below)
	}
	return gone, below < never
}
