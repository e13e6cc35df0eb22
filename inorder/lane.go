package inorder

import (
	"bourne/acc"
	"bourne/api"
	"bourne/ask"
	"bourne/rules"
	"bourne/stacks"
)

// lane is what a query has of a series: its items that are in a window which has not gone out, in their row. All of them are in the next such window, as each one that ended ahead of an item has gone out when it comes.
type lane struct {
	ask.Ask
	items *stacks.Queue
	// next: the window that goes out next, if there are items; of a session as if no item came more.
	next api.Span
}

// newLane gives the lane of what is asked; none is in it.
func newLane(a ask.Ask) lane {
	items, _ := stacks.New(a.Bounds)
	return lane{Ask: a, items: items}
}

// push puts x in as the last one.
func (l *lane) push(x api.Item) {
	if l.items.Len() == 0 {
		l.next = l.First(x.Time)
	}
	if l.Kind == api.KindSession {
		l.next.End = x.Time + l.Size
	}
	one, _ := acc.One(x, l.Bounds)
	l.items.Push(one)
}

// tell gives out with the windows that end at the line or ahead of it behind; they are gone, and so are the items that are in no other.
func (l *lane) tell(line int, out []api.Result) []api.Result {
	if l.items.Len() == 0 || l.next.End > line {
		return out
	}
	total := l.items.Total()
	for total.Count > 0 && l.next.End <= line {
		out = append(out, l.Result(l.next, total))
		l.step()
		for total.Count > 0 && total.First.Time < l.next.Start {
			l.items.Pop()
			total = l.items.Total()
		}
	}
	return out
}

// step moves on to the window behind the next one. Behind a session there is none of its items.
func (l *lane) step() {
	step := l.next.End - l.next.Start
	if l.Kind != api.KindSession {
		step = rules.Step(l.Query)
	}
	l.next.Start += step
	l.next.End += step
}
