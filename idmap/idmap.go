// Package idmap: maps of ids, a few ranges each.
package idmap

import "idshift/api"

// Check a map.
func Check(m []api.Range) error {
	if len(m) > api.MaxRanges {
		return api.ErrMany
	}
	for i, r := range m {
		if !bounded(r.In, r.Count) || !bounded(r.Out, r.Count) {
			return api.ErrBound
		}
		for _, ahead := range m[:i] {
			if meet(ahead.In, ahead.Count, r.In, r.Count) || meet(ahead.Out, ahead.Count, r.Out, r.Count) {
				return api.ErrShape
			}
		}
	}
	return nil
}

// ToHost: what an id is outside.
func ToHost(m []api.Range, x int) (int, bool) {
	return across(m, x, func(r api.Range) (from, to int) { return r.In, r.Out })
}

// FromHost: what an id from outside is within.
func FromHost(m []api.Range, y int) (int, bool) {
	return across(m, y, func(r api.Range) (from, to int) { return r.Out, r.In })
}

// Canon of a map.
func Canon(m []api.Range) ([]api.Range, error) {
	if err := Check(m); err != nil {
		return nil, err
	}
	var l []api.Range
	for _, r := range m {
		l = lay(l, r)
	}
	return join(l), nil
}

// Turn a map round. What Check says of a map it says of the turned one too: so Canon's error is the right one.
func Turn(m []api.Range) ([]api.Range, error) {
	var turned []api.Range
	for _, r := range m {
		turned = append(turned, api.Range{In: r.Out, Out: r.In, Count: r.Count})
	}
	return Canon(turned)
}

// Then: a map, and behind it another one.
func Then(a, b []api.Range) ([]api.Range, error) {
	if err := Check(a); err != nil {
		return nil, err
	}
	if err := Check(b); err != nil {
		return nil, err
	}
	var l []api.Range
	for _, r := range a {
		for _, s := range b {
			if both := chain(r, s); both.Count > 0 {
				l = lay(l, both)
			}
		}
	}
	// Pieces are counted only when they are joined: two maps that are cut in other places may still make few ranges.
	l = join(l)
	if len(l) > api.MaxRanges {
		return nil, api.ErrMany
	}
	return l, nil
}

// bounded: are count ids from first on, at least one, all ids? Nothing is added up ahead of being held against a bound, so that nothing wraps round.
func bounded(first, count int) bool {
	return first >= 0 && count >= 1 && count-1 <= api.MaxID-first
}

// meet: have two runs of ids one in common? Both are bounded.
func meet(a, counta, b, countb int) bool {
	return a < b+countb && b < a+counta
}

// across a map goes an id, from the side that sides tells first to the other one.
func across(m []api.Range, id int, sides func(r api.Range) (from, to int)) (int, bool) {
	if Check(m) != nil {
		return 0, false
	}
	for _, r := range m {
		from, to := sides(r)
		if id >= from && id-from < r.Count {
			return to + id - from, true
		}
	}
	return 0, false
}

// lay a range into a list of one's own that rises by In; those above it are moved up.
func lay(l []api.Range, r api.Range) []api.Range {
	at := 0
	for at < len(l) && l[at].In < r.In {
		at++
	}
	l = append(l, r)
	copy(l[at+1:], l[at:])
	l[at] = r
	return l
}

// join ranges that go on from one another, of a list that rises by In.
func join(l []api.Range) []api.Range {
	var out []api.Range
	for _, r := range l {
		if last := len(out) - 1; last >= 0 && goesOn(out[last], r) {
			out[last].Count += r.Count
		} else {
			out = append(out, r)
		}
	}
	return out
}

// goesOn: does b begin where a ends, within and outside?
func goesOn(a, b api.Range) bool {
	return a.In+a.Count == b.In && a.Out+a.Count == b.Out
}

// chain: the ids of a whose ids outside b has within, and what they are outside of b; its Count isn't above 0, if there are none.
func chain(a, b api.Range) api.Range {
	low := max(a.Out, b.In)
	high := min(a.Out+a.Count, b.In+b.Count)
	return api.Range{In: a.In + low - a.Out, Out: b.Out + low - b.In, Count: high - low}
}
