package inorder

import (
	"slices"

	"bourne/api"
	"bourne/ask"
	"bourne/front"
	"bourne/heap"
	"bourne/rules"
)

// run is what an engine does: behind its front items wait, and once their time is below the line they are released into the row of their series.
type run struct {
	front.Front
	waits *heap.Heap
	// rows: by series, of each that has an item which was released and is held.
	rows map[int]*row
	// released: how many items all rows hold.
	released int
}

// row holds one series' released items that are in some window which is not out, in their row, and what each query has of them.
type row struct {
	items []api.Item
	lanes []lane
}

// begin gives a run behind this front, which holds nothing.
func begin(ahead front.Front) *run {
	waits, _ := heap.New(api.MaxItems)
	return &run{Front: ahead, waits: waits, rows: map[int]*row{}}
}

// feed lets all xs wait, or none.
func (r *run) feed(xs []api.Item) api.Errno {
	if errno := r.Admit(r.released+r.waits.Len(), xs); errno != api.OK {
		return errno
	}
	return r.waits.Push(xs...)
}

// tell gives the windows that end at the line or ahead of it and have not gone out, and lets go what is in no other.
func (r *run) tell() []api.Result {
	line := r.Line()
	out := r.release(line)
	for series, row := range r.rows {
		out = row.tell(line, out)
		r.released -= row.settle()
		if len(row.items) == 0 {
			delete(r.rows, series)
		}
	}
	slices.SortFunc(out, rules.CompareResults)
	return out
}

// release moves the items below the line into their rows, by their time, and gives the windows that go out ahead of them.
func (r *run) release(line int) []api.Result {
	var out []api.Result
	for r.waitsBelow(line) {
		x, _ := r.waits.Pop()
		row := r.rowOf(x.Series)
		out = row.tell(x.Time, out)
		row.push(x)
		r.released++
	}
	return out
}

// waitsBelow tells whether an item waits whose time is below the line.
func (r *run) waitsBelow(line int) bool {
	x, errno := r.waits.Peek()
	return errno == api.OK && x.Time < line
}

// rowOf gives the row of a series, a new one if there is none.
func (r *run) rowOf(series int) *row {
	if r.rows[series] == nil {
		lanes := make([]lane, 0, len(r.Queries()))
		for place, q := range r.Queries() {
			lanes = append(lanes, newLane(ask.Ask{Query: q, Place: place, Series: series}))
		}
		r.rows[series] = &row{lanes: lanes}
	}
	return r.rows[series]
}

// held gives all that is held, by Time, then by Seq.
func (r *run) held() []api.Item {
	out := r.waiting()
	for _, row := range r.rows {
		out = append(out, row.items...)
	}
	slices.SortFunc(out, rules.Compare)
	return out
}

// waiting gives the items that wait. A heap tells no more than its least one, so all are taken out and put back.
func (r *run) waiting() []api.Item {
	var out []api.Item
	for r.waits.Len() > 0 {
		x, _ := r.waits.Pop()
		out = append(out, x)
	}
	r.waits.Push(out...)
	return out
}

// tell gives out with the windows of the row that end at the line or ahead of it behind.
func (w *row) tell(line int, out []api.Result) []api.Result {
	for i := range w.lanes {
		out = w.lanes[i].tell(line, out)
	}
	return out
}

// push puts x in as the last one. No window that ended ahead of its time may be there any more.
func (w *row) push(x api.Item) {
	w.items = append(w.items, x)
	for i := range w.lanes {
		w.lanes[i].push(x)
	}
}

// settle lets go the items that are in no lane any more, and gives how many. Each lane has the last ones of the row, so the longest has all that are in one.
func (w *row) settle() int {
	most := 0
	for _, l := range w.lanes {
		most = max(most, l.items.Len())
	}
	gone := len(w.items) - most
	w.items = slices.Delete(w.items, 0, gone)
	return gone
}
