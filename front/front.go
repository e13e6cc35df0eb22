// Package front holds what stands ahead of an engine's own work: which items it takes in, and how far its mark is (chapters 18 and 20).
package front

import (
	"slices"

	"bourne/admit"
	"bourne/api"
	"bourne/rules"
	"bourne/slack"
)

// Errors are what an engine answers: Form of what may not be, Late of items that come too late.
type Errors struct {
	Form api.Errno
	Late api.Errno
}

// Front holds an engine's queries and lateness, its mark, and the greatest Seq that came.
type Front struct {
	errors  Errors
	queries []api.Query
	late    int
	mark    int
	seq     int
}

// New gives the front of an engine of this config, which answers these errors; its mark is NoMark, and none came.
func New(c api.Config, errors Errors) (Front, api.Errno) {
	if !admit.May(c) {
		return Front{}, errors.Form
	}
	return Front{errors: errors, queries: copied(c.Queries), late: c.Late, mark: api.NoMark}, api.OK
}

// Admit tells whether all xs may be taken in, behind those that came, by an engine that holds so many items. Of an error none came.
func (f *Front) Admit(held int, xs []api.Item) api.Errno {
	// Asked first, so that a list without end is not gone through.
	if len(xs) > api.MaxItems-held {
		return f.errors.Form
	}
	seq := f.seq
	for _, x := range xs {
		if !rules.Item(x) || x.Seq <= seq {
			return f.errors.Form
		}
		seq = x.Seq
	}
	// Behind the whole walk: an item that may not be tells ahead of a late one, wherever it stands.
	if slices.ContainsFunc(xs, f.isLate) {
		return f.errors.Late
	}
	f.seq = seq
	return api.OK
}

// Advance moves the mark on to least.
func (f *Front) Advance(least int) api.Errno {
	if !rules.Within(least, f.mark, api.MaxMark) {
		return f.errors.Form
	}
	f.mark = least
	return api.OK
}

// Line gives the time below which none is taken in any more: each window that ends there, or ahead of it, is out.
func (f *Front) Line() int {
	return slack.Line(f.mark, f.late)
}

// Queries gives the queries, which are the front's own and stay as they are.
func (f *Front) Queries() []api.Query {
	return f.queries
}

// isLate tells whether x comes too late.
func (f *Front) isLate(x api.Item) bool {
	return x.Time < f.Line()
}

// copied gives queries in new memory, their Bounds too.
func copied(queries []api.Query) []api.Query {
	out := slices.Clone(queries)
	for i, q := range queries {
		out[i].Bounds = slices.Clone(q.Bounds)
	}
	return out
}
