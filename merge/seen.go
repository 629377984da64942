package merge

import (
	"cmp"
	"iter"
	"slices"

	"idshift/api"
)

// spot: a node where it stands, which is not written into, and its layer.
type spot struct {
	node  *api.Node
	layer int
}

// place: a name, and what is seen there.
type place struct {
	name string
	seen []spot
}

// steps along names: what is seen at each beginning of them, the shortest one first.
func steps(l []api.Node, names []string) iter.Seq[[]spot] {
	return func(yield func(seen []spot) bool) {
		seen := shown(layers(l))
		for _, name := range names {
			if !yield(seen) {
				return
			}
			seen = shown(kidsOf(seen, name))
		}
		yield(seen)
	}
}

// walk along names: what is seen at their end.
func walk(l []api.Node, names []string) []spot {
	var end []spot
	for seen := range steps(l, names) {
		end = seen
	}
	return end
}

// shown of nodes, one above the other: a File alone, or the Dirs with which they begin. No more of them are asked for than may be shown.
func shown(nodes iter.Seq[spot]) []spot {
	var seen []spot
	for s := range nodes {
		if s.node.Kind == api.File && len(seen) == 0 {
			return []spot{s}
		}
		if s.node.Kind != api.Dir {
			break
		}
		seen = append(seen, s)
		if s.node.Opaque {
			break
		}
	}
	return seen
}

// layers, the top one first.
func layers(l []api.Node) iter.Seq[spot] {
	return func(yield func(s spot) bool) {
		for i := range l {
			if !yield(spot{&l[i], i}) {
				return
			}
		}
	}
}

// kidsOf a name of Dirs, in order; of each Dir the first one that has it.
func kidsOf(dirs []spot, name string) iter.Seq[spot] {
	return func(yield func(s spot) bool) {
		for _, d := range dirs {
			i := slices.IndexFunc(d.kids(), func(k api.Kid) bool { return k.Name == name })
			if i >= 0 && !yield(spot{&d.node.Kids[i].Node, d.layer}) {
				return
			}
		}
	}
}

// kids of a node: what is no Dir has none.
func (s spot) kids() []api.Kid {
	if s.node.Kind != api.Dir {
		return nil
	}
	return s.node.Kids
}

// places in what is seen somewhere at which something is seen, their names rising. All kids are gone over once: to ask for the kids of each name would take too long where there are many.
func places(dirs []spot) []place {
	number := map[string]int{}
	var all []place
	for _, d := range dirs {
		kids := d.kids()
		for i := range kids {
			name, s := kids[i].Name, spot{&kids[i].Node, d.layer}
			at, known := number[name]
			if !known {
				number[name] = len(all)
				all = append(all, place{name, []spot{s}})
			} else if above := all[at].seen; above[len(above)-1].layer != d.layer {
				all[at].seen = append(above, s)
			}
		}
	}
	for i := range all {
		all[i].seen = shown(slices.Values(all[i].seen))
	}
	all = slices.DeleteFunc(all, func(p place) bool { return len(p.seen) == 0 })
	slices.SortFunc(all, func(a, b place) int { return cmp.Compare(a.name, b.name) })
	return all
}
