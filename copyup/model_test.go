package copyup_test

import (
	"slices"
	"testing"

	"idshift/api"
	"idshift/copyup"
	"idshift/merge"
	"idshift/tree"
)

// stepwise: a second telling of U2, beginning by beginning, each seen in the layers as they are then.
func stepwise(l []api.Node, m api.Maps, at []string) (api.Node, error) {
	if _, _, is := merge.Look(l, at); !is {
		return api.Node{}, api.ErrNone
	}
	l = slices.Clone(l)
	for i := range len(at) + 1 {
		n, layer, _ := merge.Look(l, at[:i])
		if layer == 0 {
			continue
		}
		n.Kids, n.Opaque = nil, false
		n, err := copyup.Outside(m, n)
		if err != nil {
			return api.Node{}, err
		}
		if l[0], err = tree.Put(l[0], at[:i], n); err != nil {
			return api.Node{}, err
		}
	}
	return l[0], nil
}

// shows: all that is seen, each node with its ids as rights see them.
func shows(l []api.Node, m api.Maps) api.Node {
	n, _ := merge.Flat(l, func(n api.Node, layer int) api.Node {
		s := copyup.Seen(m, n, layer == 0)
		n.User, n.Group = s.User, s.Group
		if !s.Mapped {
			n.Data += "?"
		}
		return n
	})
	return n
}

// compare Up with the second telling; what has come up is seen as it was (W7), stands in the upper, and doesn't come up twice.
func compare(t *testing.T, l []api.Node, m api.Maps, at []string) {
	t.Helper()
	got, err := copyup.Up(l, m, at)
	want, wantErr := stepwise(l, m, at)
	if err != wantErr || !same(got, want) || err != nil && !zero(got) {
		t.Fatalf("Up(%v, %v; %q): %v, %v, not %v, %v", l, m, at, got, err, want, wantErr)
	}
	if err != nil {
		return
	}
	then := append([]api.Node{got}, l[1:]...)
	if !same(shows(then, m), shows(l, m)) {
		t.Fatalf("Up(%v, %v; %q): %v is seen else", l, m, at, got)
	}
	for i := range len(at) + 1 {
		if _, layer, is := merge.Look(then, at[:i]); !is || layer != 0 {
			t.Fatalf("Up(%v, %v; %q): %v is seen in %d, %v", l, m, at, at[:i], layer, is)
		}
	}
	if again, err := copyup.Up(then, m, at); err != nil || !same(again, got) {
		t.Fatalf("Up(%v, %v; %q), twice: %v, %v", l, m, at, again, err)
	}
}

// All that may stand at a name, and at a name within it, in an upper over two lowers.
func TestU2All(t *testing.T) {
	kids := []string{"", "a=f", "a=w", "a=n", "a=F"}
	for _, x := range []string{"", "b=f", "b=d(c=f)", "b=D(c=f)", "b=w", "b=n", "b=d:80.1(c=f)", "B=f", "b=d(c=f:1.80 =f)"} {
		kids = append(kids, "a=d:1.2("+x+")", "a=D("+x+")")
	}
	ways := []string{"", "a", "a b", "a b c", "b", "a c", "a B", "a b ="}
	for _, x := range kids {
		for _, y := range kids {
			for _, z := range kids {
				l := layers("d(" + x + ")|d:3.4(" + y + ")|d(" + z + ")")
				for _, way := range ways {
					compare(t, l, maps(), names(way))
				}
			}
		}
	}
}

// die: numbers that look drawn, the same each time.
type die uint64

func (d *die) n(most int) int {
	*d = *d*6364136223846793005 + 1442695040888963407
	return int(uint64(*d>>33) % uint64(most))
}

// drawn: a node with kids in any order, of which some have the same name, or are of what is no Dir; most ids are in the maps.
func drawn(d *die, deep int) api.Node {
	kind := []int{api.Dir, api.Dir, api.Dir, api.Dir, api.Dir, api.File, api.File, api.White, 0, none}[d.n(10)]
	n := full(kind, d.n(10), d.n(5))
	n.Opaque = d.n(6) == 0
	if d.n(15) == 0 {
		n.User, n.Group = d.n(20), d.n(10)
	}
	if deep == 0 {
		return n
	}
	for range d.n(6) {
		n.Kids = append(n.Kids, kid([]string{"b", "a", "c", "d", "", "B"}[d.n(6)], drawn(d, deep-1)))
	}
	return n
}

func TestU2Drawn(t *testing.T) {
	d := die(8)
	for range 4000 {
		var l []api.Node
		for i := range d.n(5) {
			n := drawn(&d, 3)
			if d.n(5) > 0 {
				n.Kind, n.Opaque = api.Dir, false
			}
			if i == 0 {
				n = moved(n, outside)
			}
			l = append(l, n)
		}
		m := maps()
		if d.n(5) == 0 {
			m.Users = []api.Range{{In: 0, Out: 1000, Count: 1 + d.n(4)}, {In: 4, Out: 1000 + 4, Count: d.n(6)}}
		}
		for range 10 {
			var at []string
			for range d.n(5) {
				at = append(at, []string{"a", "b", "c", "d", "", "B"}[d.n(6)])
			}
			compare(t, l, m, at)
		}
	}
}
