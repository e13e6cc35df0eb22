package inorder

import (
	"bourne/acc"
	"bourne/api"
	"bourne/low"
	"bourne/rules"
	"bourne/stacks"
	"bourne/window"
)

// lane is what a query has of a series: its items that are in a window which has not gone out, in their row. All of them are in the next such window, as each one that ended ahead of an item has gone out when it comes.
type lane struct {
	place  int
	query  api.Query
	series int
	items  *stacks.Queue
	// next: the window that goes out next, if there are items; of a session as if no item came more.
	next api.Span
}

// newLane gives the lane of the query of this place and of a series; none is in it.
func newLane(place int, q api.Query, series int) lane {
	items, _ := stacks.New(q.Bounds)
	return lane{place: place, query: q, series: series, items: items}
}

// push puts x in as the last one.
func (l *lane) push(x api.Item) {
	if l.items.Len() == 0 {
		l.next = l.first(x.Time)
	}
	if l.query.Kind == api.KindSession {
		l.next.End = x.Time + l.query.Size
	}
	one, _ := acc.One(x, l.query.Bounds)
	l.items.Push(one)
}

// first gives the first window that holds time; of a session only where it starts, as each item moves its End on.
func (l *lane) first(time int) api.Span {
	if l.query.Kind == api.KindSession {
		return api.Span{Start: time}
	}
	windows, _ := window.Of(l.query, time)
	return windows[0]
}

// tell gives out with the windows that end at the line or ahead of it behind; they are gone, and so are the items that are in no other.
func (l *lane) tell(line int, out []api.Result) []api.Result {
	if l.items.Len() == 0 || l.next.End > line {
		return out
	}
	total := l.items.Total()
	for total.Count > 0 && l.next.End <= line {
		out = append(out, l.result(total))
		l.step()
		for total.Count > 0 && total.First.Time < l.next.Start {
			l.items.Pop()
			total = l.items.Total()
		}
	}
	return out
}

// result gives the next window, which holds all of total.
func (l *lane) result(total api.Acc) api.Result {
	out, _ := low.Value(l.query, total)
	return api.Result{Query: l.place, Series: l.series, Span: l.next, Out: out}
}

// step moves on to the window behind the next one. Behind a session there is none of its items.
func (l *lane) step() {
	step := l.next.End - l.next.Start
	if l.query.Kind != api.KindSession {
		step = rules.Step(l.query)
	}
	l.next.Start += step
	l.next.End += step
}
