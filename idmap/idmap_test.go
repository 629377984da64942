package idmap_test

import (
	"math"
	"slices"
	"testing"

	"idshift/api"
	"idshift/idmap"
)

type ranges = []api.Range

// rows: ranges as In, Out, Count each.
type rows [][3]int

func of(l rows) ranges {
	if l == nil {
		return nil
	}
	m := make(ranges, 0, len(l))
	for _, r := range l {
		m = append(m, api.Range{In: r[0], Out: r[1], Count: r[2]})
	}
	return m
}

// right: a map in no order, with two ranges that go on from one another.
func right() ranges { return of(rightRows) }

var rightRows = rows{{9, 20, 2}, {4, 1004, 3}, {0, 1000, 4}}

// wrongMaps: a map for each error, and what Check says of it.
var wrongMaps = []struct {
	name string
	m    rows
	want error
}{
	{"one more than MaxRanges", rows{{0, 0, 1}, {1, 1, 1}, {2, 2, 1}, {3, 3, 1}, {4, 4, 1}}, api.ErrMany},
	{"too many ahead of out of bounds", rows{{-1, 0, 0}, {1, 1, 1}, {1, 1, 1}, {3, 3, 1}, {4, 4, 1}}, api.ErrMany},
	{"far too many", make(rows, 1000), api.ErrMany},
	{"Count of 0", rows{{0, 0, 0}}, api.ErrBound},
	{"Count below 0", rows{{5, 5, -1}}, api.ErrBound},
	{"In below 0", rows{{-1, 0, 1}}, api.ErrBound},
	{"In below 0, its end above", rows{{-1, 0, 5}}, api.ErrBound},
	{"Out below 0", rows{{0, -1, 1}}, api.ErrBound},
	{"Out below 0, its end above", rows{{0, -1, 5}}, api.ErrBound},
	{"In above MaxID", rows{{api.MaxID + 1, 0, 1}}, api.ErrBound},
	{"Out above MaxID", rows{{0, api.MaxID + 1, 1}}, api.ErrBound},
	{"the last id within above MaxID", rows{{api.MaxID, 0, 2}}, api.ErrBound},
	{"the last id outside above MaxID", rows{{0, api.MaxID, 2}}, api.ErrBound},
	{"one more than all ids", rows{{0, 0, api.MaxID + 2}}, api.ErrBound},
	{"all ids, moved within", rows{{1, 0, api.MaxID + 1}}, api.ErrBound},
	{"all ids, moved outside", rows{{0, 1, api.MaxID + 1}}, api.ErrBound},
	{"the greatest Count", rows{{0, 0, math.MaxInt}}, api.ErrBound},
	{"the greatest Count, its end wraps round", rows{{1, 1, math.MaxInt}}, api.ErrBound},
	{"the smallest Count", rows{{0, 0, math.MinInt}}, api.ErrBound},
	{"the greatest In", rows{{math.MaxInt, 0, 1}}, api.ErrBound},
	{"the greatest In and Count", rows{{math.MaxInt, 0, math.MaxInt}}, api.ErrBound},
	{"the smallest In", rows{{math.MinInt, 0, 1}}, api.ErrBound},
	{"the smallest In, the greatest Count", rows{{math.MinInt, 0, math.MaxInt}}, api.ErrBound},
	{"the greatest Out", rows{{0, math.MaxInt, 1}}, api.ErrBound},
	{"the smallest Out", rows{{0, math.MinInt, 1}}, api.ErrBound},
	{"all of the smallest", rows{{math.MinInt, math.MinInt, math.MinInt}}, api.ErrBound},
	{"the second out of bounds", rows{{0, 0, 1}, {1, 1, 0}}, api.ErrBound},
	{"the same id within", rows{{7, 0, 1}, {7, 9, 1}}, api.ErrShape},
	{"the same id outside", rows{{0, 7, 1}, {9, 7, 1}}, api.ErrShape},
	{"the last id within is another's first", rows{{0, 0, 5}, {4, 100, 5}}, api.ErrShape},
	{"the first id within is another's last", rows{{4, 100, 5}, {0, 0, 5}}, api.ErrShape},
	{"the last id outside is another's first", rows{{0, 0, 5}, {100, 4, 5}}, api.ErrShape},
	{"the first id outside is another's last", rows{{100, 4, 5}, {0, 0, 5}}, api.ErrShape},
	{"one lies in another", rows{{0, 0, 50}, {20, 100, 2}}, api.ErrShape},
	{"one lies round another", rows{{20, 100, 2}, {0, 0, 50}}, api.ErrShape},
	{"the same range twice", rows{{3, 3, 3}, {3, 3, 3}}, api.ErrShape},
	{"the fourth meets the first", rows{{0, 0, 2}, {2, 2, 2}, {4, 4, 2}, {50, 1, 2}}, api.ErrShape},
	{"all ids twice", rows{{0, 0, api.MaxID + 1}, {api.MaxID, api.MaxID, 1}}, api.ErrShape},
	{"out of bounds ahead of meeting, of one range", rows{{0, 0, 5}, {0, -1, 5}}, api.ErrBound},
	{"the first wrong range tells: it meets one", rows{{0, 0, 5}, {4, 50, 1}, {0, 0, 0}}, api.ErrShape},
	{"the first wrong range tells: out of bounds", rows{{0, 0, 5}, {9, 9, 0}, {4, 50, 1}}, api.ErrBound},
}

// rightMaps: maps of which Check says nothing.
var rightMaps = []struct {
	name string
	m    rows
}{
	{"nil", nil},
	{"no ranges", rows{}},
	{"Count of 1", rows{{5, 9, 1}}},
	{"the id 0", rows{{0, 0, 1}}},
	{"MaxID", rows{{api.MaxID, api.MaxID, 1}}},
	{"up to MaxID", rows{{api.MaxID - 3, 0, 4}, {0, api.MaxID - 3, 4}}},
	{"all ids", rows{{0, 0, api.MaxID + 1}}},
	{"MaxRanges", rows{{3, 0, 1}, {2, 1, 1}, {1, 2, 1}, {0, 3, 1}}},
	{"side by side", rows{{0, 10, 5}, {5, 5, 5}, {10, 0, 5}}},
	{"within as another is outside", rows{{0, 5, 5}, {5, 0, 5}}},
	{"in no order", rightRows},
}

func TestI1Check(t *testing.T) {
	for _, x := range wrongMaps {
		if got := idmap.Check(of(x.m)); got != x.want {
			t.Errorf("%s: Check(%v): %v, not %v", x.name, x.m[:min(5, len(x.m))], got, x.want)
		}
	}
	for _, x := range rightMaps {
		if got := idmap.Check(of(x.m)); got != nil {
			t.Errorf("%s: Check(%v): %v", x.name, x.m, got)
		}
	}
}

func TestI2ToHostFromHost(t *testing.T) {
	all, top := rows{{0, 0, api.MaxID + 1}}, rows{{api.MaxID, 0, 1}, {0, api.MaxID, 1}}
	for _, x := range []struct {
		m      rows
		id     int
		out    int
		hasOut bool
		in     int
		hasIn  bool
	}{
		{rightRows, 0, 1000, true, 0, false},
		{rightRows, 3, 1003, true, 0, false},
		{rightRows, 4, 1004, true, 0, false},
		{rightRows, 6, 1006, true, 0, false},
		{rightRows, 7, 0, false, 0, false},
		{rightRows, 8, 0, false, 0, false},
		{rightRows, 9, 20, true, 0, false},
		{rightRows, 10, 21, true, 0, false},
		{rightRows, 11, 0, false, 0, false},
		{rightRows, 19, 0, false, 0, false},
		{rightRows, 20, 0, false, 9, true},
		{rightRows, 21, 0, false, 10, true},
		{rightRows, 22, 0, false, 0, false},
		{rightRows, 999, 0, false, 0, false},
		{rightRows, 1000, 0, false, 0, true},
		{rightRows, 1006, 0, false, 6, true},
		{rightRows, 1007, 0, false, 0, false},
		{rightRows, -1, 0, false, 0, false},
		{rightRows, math.MinInt, 0, false, 0, false},
		{rightRows, math.MaxInt, 0, false, 0, false},
		{rows{{5, 6, 1}}, math.MinInt, 0, false, 0, false},
		{rows{{5, 6, 1}}, math.MinInt + 5, 0, false, 0, false},
		{all, 0, 0, true, 0, true},
		{all, api.MaxID, api.MaxID, true, api.MaxID, true},
		{all, api.MaxID + 1, 0, false, 0, false},
		{all, -1, 0, false, 0, false},
		{all, math.MinInt, 0, false, 0, false},
		{all, math.MaxInt, 0, false, 0, false},
		{top, api.MaxID, 0, true, 0, true},
		{top, 0, api.MaxID, true, api.MaxID, true},
		{nil, 0, 0, false, 0, false},
		{rows{}, 0, 0, false, 0, false},
	} {
		if out, ok := idmap.ToHost(of(x.m), x.id); out != x.out || ok != x.hasOut {
			t.Errorf("ToHost(%v, %d): %d, %v", x.m, x.id, out, ok)
		}
		if in, ok := idmap.FromHost(of(x.m), x.id); in != x.in || ok != x.hasIn {
			t.Errorf("FromHost(%v, %d): %d, %v", x.m, x.id, in, ok)
		}
	}
}

// A map that isn't right has no ids, not even those of its ranges that are right.
func TestI2WrongMaps(t *testing.T) {
	for _, x := range wrongMaps {
		for _, id := range []int{0, 1, 3, 4, 5, 7, 9, 20, 50, 100, api.MaxID, -1, math.MaxInt, math.MinInt} {
			if out, ok := idmap.ToHost(of(x.m), id); out != 0 || ok {
				t.Errorf("%s: ToHost(%d): %d, %v", x.name, id, out, ok)
			}
			if in, ok := idmap.FromHost(of(x.m), id); in != 0 || ok {
				t.Errorf("%s: FromHost(%d): %d, %v", x.name, id, in, ok)
			}
		}
	}
}

func TestI3Errors(t *testing.T) {
	for _, x := range wrongMaps {
		if l, err := idmap.Canon(of(x.m)); len(l) > 0 || err != x.want {
			t.Errorf("%s: Canon: %v, %v", x.name, l, err)
		}
		if l, err := idmap.Turn(of(x.m)); len(l) > 0 || err != x.want {
			t.Errorf("%s: Turn: %v, %v", x.name, l, err)
		}
		if l, err := idmap.Then(of(x.m), right()); len(l) > 0 || err != x.want {
			t.Errorf("%s: Then, the first one wrong: %v, %v", x.name, l, err)
		}
		if l, err := idmap.Then(right(), of(x.m)); len(l) > 0 || err != x.want {
			t.Errorf("%s: Then, the second one wrong: %v, %v", x.name, l, err)
		}
		if l, err := idmap.Then(nil, of(x.m)); len(l) > 0 || err != x.want {
			t.Errorf("%s: Then, no ids, the second one wrong: %v, %v", x.name, l, err)
		}
		for _, y := range wrongMaps {
			if l, err := idmap.Then(of(x.m), of(y.m)); len(l) > 0 || err != x.want {
				t.Errorf("%s, %s: Then, both wrong: %v, %v", x.name, y.name, l, err)
			}
		}
	}
}

func TestI3CanonTurn(t *testing.T) {
	for _, x := range []struct{ m, canon, turn rows }{
		{nil, nil, nil},
		{rows{}, nil, nil},
		{rows{{5, 9, 1}}, rows{{5, 9, 1}}, rows{{9, 5, 1}}},
		{rightRows, rows{{0, 1000, 7}, {9, 20, 2}}, rows{{20, 9, 2}, {1000, 0, 7}}},
		{rows{{0, 1000, 4}, {9, 20, 2}}, rows{{0, 1000, 4}, {9, 20, 2}}, rows{{20, 9, 2}, {1000, 0, 4}}},
		{rows{{3, 13, 1}, {2, 12, 1}, {1, 11, 1}, {0, 10, 1}}, rows{{0, 10, 4}}, rows{{10, 0, 4}}},
		{rows{{2, 12, 1}, {0, 10, 1}, {3, 13, 1}, {1, 11, 1}}, rows{{0, 10, 4}}, rows{{10, 0, 4}}},
		{rows{{0, 5, 5}, {5, 0, 5}}, rows{{0, 5, 5}, {5, 0, 5}}, rows{{0, 5, 5}, {5, 0, 5}}},
		{rows{{0, 10, 3}, {3, 20, 3}}, rows{{0, 10, 3}, {3, 20, 3}}, rows{{10, 0, 3}, {20, 3, 3}}},
		{rows{{0, 10, 3}, {4, 13, 3}}, rows{{0, 10, 3}, {4, 13, 3}}, rows{{10, 0, 3}, {13, 4, 3}}},
		{rows{{0, 10, 3}, {4, 14, 3}}, rows{{0, 10, 3}, {4, 14, 3}}, rows{{10, 0, 3}, {14, 4, 3}}},
		{rows{{9, 1, 1}, {7, 2, 1}, {5, 3, 1}, {3, 4, 1}}, rows{{3, 4, 1}, {5, 3, 1}, {7, 2, 1}, {9, 1, 1}}, rows{{1, 9, 1}, {2, 7, 1}, {3, 5, 1}, {4, 3, 1}}},
		{rows{{30000, 30000, api.MaxID + 1 - 30000}, {0, 0, 30000}}, rows{{0, 0, api.MaxID + 1}}, rows{{0, 0, api.MaxID + 1}}},
	} {
		if l, err := idmap.Canon(of(x.m)); err != nil || !slices.Equal(l, of(x.canon)) {
			t.Errorf("Canon(%v): %v, %v; not %v", x.m, l, err, x.canon)
		}
		if l, err := idmap.Turn(of(x.m)); err != nil || !slices.Equal(l, of(x.turn)) {
			t.Errorf("Turn(%v): %v, %v; not %v", x.m, l, err, x.turn)
		}
	}
}

func TestI3Then(t *testing.T) {
	m := rows{{0, 1000, 4}, {9, 20, 2}}
	all := rows{{0, 0, api.MaxID + 1}}
	for _, x := range []struct {
		name       string
		a, b, want rows
		err        error
	}{
		{"the document's", m, rows{{1002, 0, 5}, {21, 70, 1}}, rows{{2, 0, 2}, {10, 70, 1}}, nil},
		{"none of both", nil, nil, nil, nil},
		{"none of the first", nil, m, nil, nil},
		{"none of the second", m, nil, nil, nil},
		{"nothing meets", m, rows{{0, 5, 9}}, nil, nil},
		{"just beside", rows{{0, 10, 5}}, rows{{15, 0, 5}, {5, 5, 5}}, nil, nil},
		{"one id at each end", rows{{0, 10, 5}}, rows{{14, 0, 5}, {6, 5, 5}}, rows{{0, 9, 1}, {4, 0, 1}}, nil},
		{"all ids behind", rightRows, all, rows{{0, 1000, 7}, {9, 20, 2}}, nil},
		{"all ids ahead", all, rightRows, rows{{0, 1000, 7}, {9, 20, 2}}, nil},
		{"out at MaxID", rows{{0, api.MaxID, 1}}, rows{{api.MaxID, api.MaxID, 1}}, rows{{0, api.MaxID, 1}}, nil},
		{"two become one", rows{{0, 10, 2}, {2, 20, 2}}, rows{{20, 52, 2}, {10, 50, 2}}, rows{{0, 50, 4}}, nil},
		{"more pieces than MaxRanges, that are one", rows{{0, 10, 3}, {3, 13, 3}, {6, 16, 2}}, rows{{10, 0, 2}, {12, 2, 2}, {14, 4, 4}}, rows{{0, 0, 8}}, nil},
		{"just MaxRanges", rows{{0, 100, 10}}, rows{{109, 1, 1}, {106, 3, 1}, {103, 5, 1}, {100, 7, 1}}, rows{{0, 7, 1}, {3, 5, 1}, {6, 3, 1}, {9, 1, 1}}, nil},
		{"one more than MaxRanges", rows{{0, 100, 4}, {10, 104, 10}}, rows{{100, 0, 2}, {103, 20, 2}, {106, 40, 1}, {110, 60, 1}}, nil, api.ErrMany},
		{"as many as may be", rows{{0, 0, 2}, {9, 2, 2}, {18, 4, 2}, {27, 6, 2}}, rows{{1, 0, 2}, {3, 9, 2}, {5, 18, 2}, {7, 27, 1}}, nil, api.ErrMany},
	} {
		if l, err := idmap.Then(of(x.a), of(x.b)); err != x.err || !slices.Equal(l, of(x.want)) {
			t.Errorf("%s: Then(%v, %v): %v, %v; not %v, %v", x.name, x.a, x.b, l, err, x.want, x.err)
		}
	}
}
