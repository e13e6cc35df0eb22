// Package rules holds what several layers ask of numbers, items and bounds (chapter 1), of queries and of what they tell.
package rules

import (
	"cmp"
	"slices"

	"bourne/api"
)

// Within tells whether n is from low to high.
func Within(n int, low int, high int) bool {
	return low <= n && n <= high
}

// Item tells whether x may be an item.
func Item(x api.Item) bool {
	return Within(x.Series, 0, api.MaxId) &&
		Within(x.Time, -api.MaxTime, api.MaxTime) &&
		Within(x.Seq, 1, api.MaxSeq) &&
		Within(x.Value, -api.MaxValue, api.MaxValue)
}

// Compare orders items by Time, then by Seq: below 0 if x stands ahead of y, 0 if they are alike.
func Compare(x api.Item, y api.Item) int {
	return cmp.Or(cmp.Compare(x.Time, y.Time), cmp.Compare(x.Seq, y.Seq))
}

// Bounds tells whether these may be bounds.
func Bounds(bounds []int) bool {
	if len(bounds) > api.MaxBounds {
		return false
	}
	for _, b := range bounds {
		if !Within(b, -api.MaxValue, api.MaxValue) {
			return false
		}
	}
	for i := range len(bounds) - 1 {
		if bounds[i] >= bounds[i+1] {
			return false
		}
	}
	return true
}

// Bucket gives the place of the bucket into which value falls; the bounds may be.
func Bucket(bounds []int, value int) int {
	at, _ := slices.BinarySearch(bounds, value)
	return at
}

// Step gives how far apart the Starts of q's windows stand; q may be and is not of KindSession.
func Step(q api.Query) int {
	if q.Kind == api.KindSliding {
		return q.Slide
	}
	return q.Size
}

// CompareResults orders windows as they go out: by End, then by Query, Series, Start; below 0 if a goes ahead of b.
func CompareResults(a api.Result, b api.Result) int {
	return cmp.Or(
		cmp.Compare(a.Span.End, b.Span.End),
		cmp.Compare(a.Query, b.Query),
		cmp.Compare(a.Series, b.Series),
		cmp.Compare(a.Span.Start, b.Span.Start),
	)
}
