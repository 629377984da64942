package idmap_test

import (
	"math/rand"
	"slices"
	"testing"

	"idshift/api"
	"idshift/idmap"
)

// few: ids of maps that are drawn lie below it, so that they often meet.
const few = 24

// drawn map, wrong now and then.
func drawn(r *rand.Rand) ranges {
	var m ranges
	for range r.Intn(api.MaxRanges + 2) {
		m = append(m, api.Range{In: r.Intn(few) - 1, Out: r.Intn(few) - 1, Count: r.Intn(6)})
	}
	return m
}

// rightDrawn: a map that is right: of the ranges that are drawn, those that may stand beside one another.
func rightDrawn(r *rand.Rand) ranges {
	var m ranges
	for range r.Intn(20) {
		more := append(slices.Clone(m), api.Range{In: r.Intn(few), Out: r.Intn(few), Count: 1 + r.Intn(6)})
		if modelCheck(more) == nil {
			m = more
		}
	}
	return m
}

// modelCheck goes id by id.
func modelCheck(m ranges) error {
	if len(m) > api.MaxRanges {
		return api.ErrMany
	}
	in, out := map[int]bool{}, map[int]bool{}
	for _, r := range m {
		if r.Count < 1 || r.In < 0 || r.Out < 0 {
			return api.ErrBound
		}
		for i := range r.Count {
			if in[r.In+i] || out[r.Out+i] {
				return api.ErrShape
			}
		}
		for i := range r.Count {
			in[r.In+i], out[r.Out+i] = true, true
		}
	}
	return nil
}

// pairs of a map: what each id is.
func pairs(m ranges) map[int]int {
	p := map[int]int{}
	for _, r := range m {
		for i := range r.Count {
			p[r.In+i] = r.Out + i
		}
	}
	return p
}

// runs of pairs, as long as they may be.
func runs(p map[int]int) ranges {
	var l ranges
	for id := range 2 * few {
		out, ok := p[id]
		if !ok {
			continue
		}
		if before, ok := p[id-1]; ok && before == out-1 {
			l[len(l)-1].Count++
		} else {
			l = append(l, api.Range{In: id, Out: out, Count: 1})
		}
	}
	return l
}

func TestDrawnMaps(t *testing.T) {
	r := rand.New(rand.NewSource(1))
	for range 20000 {
		m := drawn(r)
		want := modelCheck(m)
		if err := idmap.Check(m); err != want {
			t.Fatalf("Check(%v): %v, not %v", m, err, want)
		}
		if want != nil {
			continue
		}
		p, back := pairs(m), map[int]int{}
		for in, out := range p {
			back[out] = in
		}
		for id := -1; id < 2*few; id++ {
			if y, ok := idmap.ToHost(m, id); y != p[id] || ok != has(p, id) {
				t.Fatalf("ToHost(%v, %d): %d, %v", m, id, y, ok)
			}
			if x, ok := idmap.FromHost(m, id); x != back[id] || ok != has(back, id) {
				t.Fatalf("FromHost(%v, %d): %d, %v", m, id, x, ok)
			}
		}
		if l, err := idmap.Canon(m); err != nil || !slices.Equal(l, runs(p)) {
			t.Fatalf("Canon(%v): %v, %v; not %v", m, l, err, runs(p))
		}
		if l, err := idmap.Turn(m); err != nil || !slices.Equal(l, runs(back)) {
			t.Fatalf("Turn(%v): %v, %v; not %v", m, l, err, runs(back))
		}
	}
}

func TestDrawnThen(t *testing.T) {
	r := rand.New(rand.NewSource(2))
	many := 0
	for range 20000 {
		a, b := rightDrawn(r), rightDrawn(r)
		p, q := map[int]int{}, pairs(b)
		for in, out := range pairs(a) {
			if further, ok := q[out]; ok {
				p[in] = further
			}
		}
		want, wantErr := runs(p), error(nil)
		if len(want) > api.MaxRanges {
			want, wantErr = nil, api.ErrMany
			many++
		}
		if l, err := idmap.Then(a, b); err != wantErr || !slices.Equal(l, want) {
			t.Fatalf("Then(%v, %v): %v, %v; not %v, %v", a, b, l, err, want, wantErr)
		}
	}
	if many < 100 {
		t.Errorf("only %d of the drawn maps have too many ranges together", many)
	}
}

func has(p map[int]int, id int) bool {
	_, ok := p[id]
	return ok
}
