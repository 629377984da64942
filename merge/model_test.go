package merge_test

import (
	"maps"
	"slices"
	"testing"

	"idshift/api"
	"idshift/merge"
)

// has: a second telling of what a layer has at the end of names, seen or not.
func has(n api.Node, l []string) (api.Node, bool) {
	if len(l) == 0 {
		return n, true
	}
	for _, k := range n.Kids {
		if n.Kind == api.Dir && k.Name == l[0] {
			return has(k.Node, l[1:])
		}
	}
	return api.Node{}, false
}

// gives: a second telling of M1, layer by layer: is what this layer has there among what is seen? It must be among it one name earlier, as a Dir; then what layers above it, that are among it there too, have at the name must be Dirs that aren't Opaque.
func gives(l []api.Node, at []string, layer int) bool {
	n, is := has(l[layer], at)
	if !is || !within(l, at, layer) {
		return false
	}
	above := 0
	for i := range layer {
		x, is := has(l[i], at)
		if !is || !within(l, at, i) {
			continue
		}
		if x.Kind != api.Dir || x.Opaque {
			return false
		}
		above++
	}
	return n.Kind == api.Dir || n.Kind == api.File && above == 0
}

// within: does the layer give a Dir one name earlier? (Of '/' that is always so.)
func within(l []api.Node, at []string, layer int) bool {
	if len(at) == 0 {
		return true
	}
	up := at[:len(at)-1]
	n, is := has(l[layer], up)
	return is && n.Kind == api.Dir && gives(l, up, layer)
}

// first layer that gives something there; -1: none.
func first(l []api.Node, at []string) int {
	for i := range l {
		if gives(l, at, i) {
			return i
		}
	}
	return -1
}

// listed: of all names there are, those at which something is seen.
func listed(l []api.Node, at []string) []string {
	all := map[string]bool{}
	for i := range l {
		n, _ := has(l[i], at)
		for _, k := range n.Kids {
			all[k.Name] = first(l, append(slices.Clone(at), k.Name)) >= 0
		}
	}
	maps.DeleteFunc(all, func(_ string, is bool) bool { return !is })
	return slices.Sorted(maps.Keys(all))
}

// flattened: a second telling of M3, of what is seen there.
func flattened(l []api.Node, at []string) api.Node {
	n, _ := has(l[first(l, at)], at)
	n.Opaque, n.Kids = false, nil
	n.User = first(l, at)
	for _, name := range listed(l, at) {
		n.Kids = append(n.Kids, kid(name, flattened(l, append(slices.Clone(at), name))))
	}
	return n
}

// without the kids of the last name, where the names lead in a tree.
func without(n api.Node, l []string) api.Node {
	n.Kids = slices.Clone(n.Kids)
	if len(l) == 1 {
		n.Kids = slices.DeleteFunc(n.Kids, func(k api.Kid) bool { return k.Name == l[0] })
		return n
	}
	if i := slices.IndexFunc(n.Kids, func(k api.Kid) bool { return k.Name == l[0] }); i >= 0 {
		n.Kids[i].Node = without(n.Kids[i].Node, l[1:])
	}
	return n
}

// compare all that is told of layers with the second telling.
func compare(t *testing.T, l []api.Node, ways []string) {
	t.Helper()
	for _, way := range ways {
		at := names(way)
		n, layer, is := merge.Look(l, at)
		want := first(l, at)
		if is != (want >= 0) || !is && (layer != 0 || !zero(n)) {
			t.Fatalf("Look(%v; %s): %v, %d, %v", l, way, n, layer, is)
		}
		if there, _ := has(l[max(want, 0)], at); is && (layer != want || !same(n, there)) {
			t.Fatalf("Look(%v; %s): %v, %d, not %v, %d", l, way, n, layer, there, want)
		}
		compareAlong(t, l, at)
		if got := merge.List(l, at); !slices.Equal(got, listed(l, at)) {
			t.Fatalf("List(%v; %s): %v, not %v", l, way, got, listed(l, at))
		}
		below := false
		if len(at) > 0 {
			below = first(append([]api.Node{without(l[0], at)}, l[1:]...), at) >= 0
		}
		if got := merge.Below(l, at); got != below {
			t.Fatalf("Below(%v; %s): %v", l, way, got)
		}
	}
	got, is := merge.Flat(l, func(n api.Node, layer int) api.Node {
		n.User = layer
		return n
	})
	if is != (first(l, nil) >= 0) || is && !same(got, flattened(l, nil)) || !is && !zero(got) {
		t.Fatalf("Flat(%v): %v, %v", l, got, is)
	}
}

// compareAlong: Along tells what Look does at each beginning.
func compareAlong(t *testing.T, l []api.Node, at []string) {
	t.Helper()
	nodes, from := merge.Along(l, at)
	long := 0
	for ; long <= len(at); long++ {
		n, layer, is := merge.Look(l, at[:long])
		if !is {
			break
		}
		n.Kids = nil
		if long >= len(nodes) || long >= len(from) || !same(nodes[long], n) || from[long] != layer {
			t.Fatalf("Along(%v; %v): %v, %v, at %d not %v, %d", l, at, nodes, from, long, n, layer)
		}
	}
	if len(nodes) != long || len(from) != long {
		t.Fatalf("Along(%v; %v): %d, %d, not %d", l, at, len(nodes), len(from), long)
	}
}

// All that may stand at '/' in up to four layers, with a kid each.
func TestM1AllAtTheTop(t *testing.T) {
	var all [][]api.Node
	kinds := []string{"f", "d", "D", "w", "n", "F"}
	for i, a := range kinds {
		all = append(all, layers(a+"(a=fx)"))
		for j, b := range kinds {
			all = append(all, layers(a+"(p=fx)|"+b+"(a=fy)"))
			for _, c := range kinds {
				all = append(all, layers(a+"(q=fx)|"+b+"(p=fy)|"+c+"(a=fz)"))
				if i < 3 && j < 3 {
					all = append(all, layers(a+"(q=fx)|"+b+"(p=fy)|"+c+"(a=fz)|d(r=fu)"))
				}
			}
		}
	}
	for _, l := range all {
		compare(t, l, names("= a p q r"))
		compare(t, l, []string{""})
	}
}

// All that may stand at a name, in three layers, and at a name within it.
func TestM1AllAtNames(t *testing.T) {
	within := []string{"", "b=f", "b=d(c=f)", "b=D", "b=w", "b=n"}
	var kids []string
	kids = append(kids, "", "a=f", "a=w", "a=n")
	for _, x := range within {
		kids = append(kids, "a=d("+x+")", "a=D("+x+")")
	}
	ways := []string{"", "a", "a b", "a b c", "b", "a c"}
	for _, x := range kids {
		for _, y := range kids {
			for _, z := range kids {
				compare(t, layers("d("+x+")|d("+y+")|d("+z+")"), ways)
			}
		}
	}
}

// die: numbers that look drawn, the same each time.
type die uint64

func (d *die) n(most int) int {
	*d = *d*6364136223846793005 + 1442695040888963407
	return int(uint64(*d>>33) % uint64(most))
}

// drawn: a node with kids in any order, of which some have the same name, or are of what is no Dir.
func drawn(d *die, deep int) api.Node {
	n := api.Node{Kind: []int{api.Dir, api.Dir, api.Dir, api.Dir, api.File, api.White, 0, none}[d.n(8)], Mode: d.n(1000), Opaque: d.n(5) == 0, Data: string(rune('p' + d.n(9)))}
	if deep == 0 {
		return n
	}
	for range d.n(5) {
		n.Kids = append(n.Kids, kid([]string{"b", "a", "c", "", "B"}[d.n(5)], drawn(d, deep-1)))
	}
	return n
}

func TestM1Drawn(t *testing.T) {
	d := die(7)
	ways := []string{"", "a", "b", "c", "=", "B", "a b", "b a", "b b", "c a", "a =", "= a", "a b c", "b b b", "c = b", "z", "a z"}
	for range 3000 {
		var l []api.Node
		for range 1 + d.n(5) {
			n := drawn(&d, 3)
			if d.n(4) > 0 {
				n.Kind, n.Opaque = api.Dir, false
			}
			l = append(l, n)
		}
		compare(t, l, ways)
	}
}
