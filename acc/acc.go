// Package acc tells what is known of some items of one series (chapter 1).
package acc

import (
	"bourne/api"
	"bourne/rules"
)

// May tells whether a may be, with these bounds.
func May(a api.Acc, bounds []int) bool {
	return rules.Bounds(bounds) && fits(a, len(bounds)+1)
}

// One gives what is known of x alone.
func One(x api.Item, bounds []int) (api.Acc, api.Errno) {
	if !rules.Item(x) || !rules.Bounds(bounds) {
		return api.Acc{}, api.ErrAccForm
	}
	out := api.Acc{Count: 1, Sum: x.Value, Min: x.Value, Max: x.Value, First: x, Last: x}
	out.Hist = make([]int, len(bounds)+1)
	out.Hist[rules.Bucket(bounds, x.Value)] = 1
	return out, api.OK
}

// Join gives what is known of all together; of items that stand alike, the First is that of the argument ahead, the Last that of the one behind.
func Join(bounds []int, as ...api.Acc) (api.Acc, api.Errno) {
	if !rules.Bounds(bounds) || !fitTogether(as, len(bounds)+1) {
		return api.Acc{}, api.ErrAccForm
	}
	// Counted ahead of the fold: within MaxItems no sum overflows.
	if total(as) > api.MaxItems {
		return api.Acc{}, api.ErrAccTotal
	}
	out := api.Acc{Hist: make([]int, len(bounds)+1)}
	for _, a := range as {
		add(&out, a)
	}
	return out, api.OK
}

// fits tells whether a may be, with so many buckets.
func fits(a api.Acc, buckets int) bool {
	if !rules.Within(a.Count, 0, api.MaxItems) || !histFits(a, buckets) {
		return false
	}
	if a.Count == 0 {
		return restIsZero(a)
	}
	return endsFit(a) && valuesFit(a)
}

// histFits tells whether each bucket has a number that may be, and all together Count.
func histFits(a api.Acc, buckets int) bool {
	if len(a.Hist) != buckets {
		return false
	}
	sum := 0
	for _, n := range a.Hist {
		if !rules.Within(n, 0, api.MaxItems) {
			return false
		}
		sum += n
	}
	return sum == a.Count
}

// restIsZero tells whether all but Count and Hist is zero.
func restIsZero(a api.Acc) bool {
	none := api.Item{}
	return a.Sum == 0 && a.Min == 0 && a.Max == 0 && a.First == none && a.Last == none
}

// endsFit tells whether First and Last are items of one series that may be, in their row.
func endsFit(a api.Acc) bool {
	return rules.Item(a.First) && rules.Item(a.Last) &&
		a.First.Series == a.Last.Series && rules.Compare(a.First, a.Last) <= 0
}

// valuesFit tells whether the ends' Values and Sum agree with Min, Max and Count, which is in its limits.
func valuesFit(a api.Acc) bool {
	return rules.Within(a.Min, -api.MaxValue, a.Max) && a.Max <= api.MaxValue &&
		rules.Within(a.First.Value, a.Min, a.Max) && rules.Within(a.Last.Value, a.Min, a.Max) &&
		rules.Within(a.Sum, a.Count*a.Min, a.Count*a.Max)
}

// fitTogether tells whether each may be and those that are not empty are of one series.
func fitTogether(as []api.Acc, buckets int) bool {
	series := -1
	for _, a := range as {
		if !fits(a, buckets) {
			return false
		}
		if a.Count == 0 {
			continue
		}
		if series >= 0 && a.First.Series != series {
			return false
		}
		series = a.First.Series
	}
	return true
}

// total gives how many items all have together.
func total(as []api.Acc) int {
	n := 0
	for _, a := range as {
		n += a.Count
	}
	return n
}

// add joins a, which stands behind what out has, to out; both fit.
func add(out *api.Acc, a api.Acc) {
	if a.Count == 0 {
		return
	}
	if out.Count == 0 {
		out.Min, out.Max, out.First, out.Last = a.Min, a.Max, a.First, a.Last
	}
	out.Count += a.Count
	out.Sum += a.Sum
	out.Min = min(out.Min, a.Min)
	out.Max = max(out.Max, a.Max)
	if rules.Compare(a.First, out.First) < 0 {
		out.First = a.First
	}
	if rules.Compare(a.Last, out.Last) >= 0 {
		out.Last = a.Last
	}
	for i, n := range a.Hist {
		out.Hist[i] += n
	}
}
