package lazy

import (
	"bourne/api"
	"bourne/ask"
	"bourne/rules"
	"bourne/tree"
)

// never is a time behind all marks, and so behind all items.
const never = api.MaxMark + 1

// lane is what a query asks of a series' items, which stand in the tree that it has; lanes of the same Bounds have one together.
type lane struct {
	ask.Ask
	*tree.Tree
	// next: the first window that holds an item and has not gone out, never if there is none; of a session, what is known of it: it starts there, and it ends there or behind.
	next api.Span
}

// newLane gives the lane of what is asked of the items of a tree, of which there is none yet.
func newLane(a ask.Ask, items *tree.Tree) lane {
	return lane{Ask: a, Tree: items, next: api.Span{Start: never, End: never}}
}

// see takes note of an item of this time. As it is not below the line, none of its windows has gone out; and nothing is known yet of a session that starts behind the line but for its start, so that none is lost.
func (l *lane) see(time int) {
	if first := l.First(time); first.Start < l.next.Start {
		l.next = first
	}
}

// tell gives out with the windows that end at the line or ahead of it behind.
func (l *lane) tell(line int, out []api.Result) []api.Result {
	for l.next.End <= line {
		if l.Kind == api.KindSession {
			out = l.tellSession(out)
		} else {
			out = l.tellWindows(line, out)
		}
	}
	return out
}

// tellSession gives out with the next session behind; if there are items that it was not known to hold, as it is, with what is known of its end moved on behind them.
func (l *lane) tellSession(out []api.Result) []api.Result {
	all := l.Range(l.next)
	if end := all.Last.Time + l.Size; end > l.next.End {
		l.next.End = end
		return out
	}
	out = append(out, l.Result(l.next, all))
	l.goTo(l.timeFrom(l.next.End))
	return out
}

// tellWindows gives out with the next window behind, and those that hold the same items and end at the line or ahead of it: the tree is asked once for all of them.
func (l *lane) tellWindows(line int, out []api.Result) []api.Result {
	all := l.Range(l.next)
	behind := l.timeFrom(l.next.End)
	step := rules.Step(l.Query)
	for l.next.Start <= all.First.Time && l.next.End <= min(behind, line) {
		out = append(out, l.Result(l.next, all))
		l.next.Start += step
		l.next.End += step
	}
	if l.next.Start > all.Last.Time {
		l.goTo(behind)
	}
	return out
}

// timeFrom gives the time of the first item that is not below start, never if there is none.
func (l *lane) timeFrom(start int) int {
	all := l.Range(api.Span{Start: start, End: never})
	if all.Count == 0 {
		return never
	}
	return all.First.Time
}

// goTo moves on to the first window that holds time; to none if that is never.
func (l *lane) goTo(time int) {
	l.next = api.Span{Start: never, End: never}
	if time < never {
		l.next = l.First(time)
	}
}
