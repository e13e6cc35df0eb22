// Package ask holds what a query asks of a series, in whichever way an engine keeps the items (chapters 18 and 20).
package ask

import (
	"bourne/api"
	"bourne/low"
	"bourne/window"
)

// Ask is a query, which may be, with its place among the others, and a series.
type Ask struct {
	api.Query
	Place  int
	Series int
}

// First gives the first window that holds time; of a session, what it is if no other item is near.
func (a *Ask) First(time int) api.Span {
	if a.Kind == api.KindSession {
		return api.Span{Start: time, End: time + a.Size}
	}
	windows, _ := window.Of(a.Query, time)
	return windows[0]
}

// Result gives what goes out of a window, of whose items, which are some, all is known together.
func (a *Ask) Result(s api.Span, all api.Acc) api.Result {
	out, _ := low.Value(a.Query, all)
	return api.Result{Query: a.Place, Series: a.Series, Span: s, Out: out}
}
