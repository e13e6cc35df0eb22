package tree

import (
	"bourne/api"
	"bourne/rules"
)

// How many times the weight of the part beside it one may have, and from how many times the weight of its outer part on its inner one is split up, when it is too heavy. With these two numbers a turn at each place sets right what an item more, or a link, has set wrong.
const (
	mostTimes  = 3
	splitTimes = 2
)

// part is what stands of a row together: an item, the part of those ahead of it and that of those behind it, and what is known of all of them. Once made it stays as it is.
type part struct {
	ahead  *part
	item   api.Item
	behind *part
	all    api.Acc
}

// count gives how many items a part has.
func (p *part) count() int {
	if p == nil {
		return 0
	}
	return p.all.Count
}

// weight gives what a part counts for when parts are held against one another: that of nothing is 1, so that something may stand beside it.
func (p *part) weight() int {
	return p.count() + 1
}

// tooHeavy tells whether p may not stand beside q.
func tooHeavy(p *part, q *part) bool {
	return p.weight() > mostTimes*q.weight()
}

// has tells whether an item that stands alike with x is there.
func (p *part) has(x api.Item) bool {
	for p != nil {
		switch c := rules.Compare(x, p.item); {
		case c == 0:
			return true
		case c < 0:
			p = p.ahead
		default:
			p = p.behind
		}
	}
	return false
}

// items gives out with the part's items behind.
func (p *part) items(out []api.Item) []api.Item {
	if p == nil {
		return out
	}
	out = append(p.ahead.items(out), p.item)
	return p.behind.items(out)
}

// within gives out with what is known of p's items in s behind: of whole parts at once, so that only those at the two ends of s are gone into.
func (t *Tree) within(p *part, s api.Span, out []api.Acc) []api.Acc {
	switch {
	case p == nil, p.all.Last.Time < s.Start, p.all.First.Time >= s.End:
		return out
	case p.all.First.Time >= s.Start && p.all.Last.Time < s.End:
		return append(out, p.all)
	}
	out = t.within(p.ahead, s, out)
	if p.item.Time >= s.Start && p.item.Time < s.End {
		out = append(out, t.alone(p.item))
	}
	return t.within(p.behind, s, out)
}

// insert gives p with x, with which none there stands alike.
func (t *Tree) insert(p *part, x api.Item) *part {
	if p == nil {
		return t.put(nil, x, nil)
	}
	if rules.Compare(x, p.item) < 0 {
		return t.balance(t.insert(p.ahead, x), p.item, p.behind)
	}
	return t.balance(p.ahead, p.item, t.insert(p.behind, x))
}

// evict gives p without the items whose Time is below a time.
func (t *Tree) evict(p *part, below int) *part {
	if p == nil || p.all.First.Time >= below {
		return p
	}
	if p.item.Time < below {
		return t.evict(p.behind, below)
	}
	return t.link(t.evict(p.ahead, below), p.item, p.behind)
}

// link puts together what may stand side by side, but for ahead, which may be much too light: it goes down to where the first part of behind is not too heavy for it.
func (t *Tree) link(ahead *part, x api.Item, behind *part) *part {
	if !tooHeavy(behind, ahead) {
		return t.put(ahead, x, behind)
	}
	return t.balance(t.link(ahead, x, behind.ahead), behind.item, behind.behind)
}

// balance puts together what, but for a turn at most, may stand side by side.
func (t *Tree) balance(ahead *part, x api.Item, behind *part) *part {
	switch {
	case tooHeavy(behind, ahead):
		return t.turnAhead(ahead, x, behind)
	case tooHeavy(ahead, behind):
		return t.turnBehind(ahead, x, behind)
	}
	return t.put(ahead, x, behind)
}

// turnAhead puts x, and the inner part of behind or the ahead one of that, to what is ahead.
func (t *Tree) turnAhead(ahead *part, x api.Item, behind *part) *part {
	inner, outer := behind.ahead, behind.behind
	if inner.weight() < splitTimes*outer.weight() {
		return t.put(t.put(ahead, x, inner), behind.item, outer)
	}
	return t.put(t.put(ahead, x, inner.ahead), inner.item, t.put(inner.behind, behind.item, outer))
}

// turnBehind puts x, and the inner part of ahead or the behind one of that, to what is behind.
func (t *Tree) turnBehind(ahead *part, x api.Item, behind *part) *part {
	outer, inner := ahead.ahead, ahead.behind
	if inner.weight() < splitTimes*outer.weight() {
		return t.put(outer, ahead.item, t.put(inner, x, behind))
	}
	return t.put(t.put(outer, ahead.item, inner.ahead), inner.item, t.put(inner.behind, x, behind))
}

// put makes the part of ahead, x and behind.
func (t *Tree) put(ahead *part, x api.Item, behind *part) *part {
	parts := make([]api.Acc, 0, 3)
	if ahead != nil {
		parts = append(parts, ahead.all)
	}
	parts = append(parts, t.alone(x))
	if behind != nil {
		parts = append(parts, behind.all)
	}
	return &part{ahead: ahead, item: x, behind: behind, all: t.join(parts...)}
}
