package merge_test

import (
	"fmt"
	"slices"
	"testing"

	"idshift/api"
	"idshift/merge"
	"idshift/tree"
)

// roomy: the same node in lists that have more behind their ends, which would alter every answer.
func roomy(n api.Node) api.Node {
	n.Attrs = append(slices.Clone(n.Attrs), api.Attr{Name: "behind"}, api.Attr{Name: "A"})[:len(n.Attrs)]
	kids := append(slices.Clone(n.Kids), kid("k", node("fk")), kid("a", node("d(x=fk)")), kid("d", node("w")))[:len(n.Kids)]
	for i := range kids {
		kids[i].Node = roomy(kids[i].Node)
	}
	n.Kids = kids
	return n
}

// roomyAll: layers, with one more behind their end.
func roomyAll(l []api.Node) []api.Node {
	var all []api.Node
	for _, n := range l {
		all = append(all, roomy(n))
	}
	return append(all, node("d(a=d(x=fk) k=fk)"))[:len(l)]
}

// whole: all that stands in a node's memory, also behind the ends of its lists.
func whole(n api.Node) string {
	s := fmt.Sprintf("%d %d %d %d %v %q %d %d %q", n.Kind, n.Mode, n.User, n.Group, n.Opaque, n.Data, len(n.Attrs), len(n.Kids), n.Attrs[:cap(n.Attrs)])
	for _, k := range n.Kids[:cap(n.Kids)] {
		s += fmt.Sprintf(" %q {%s}", k.Name, whole(k.Node))
	}
	return s
}

func wholeAll(l []api.Node) string {
	s := fmt.Sprint(len(l))
	for _, n := range l[:cap(l)] {
		s += "|" + whole(n)
	}
	return s
}

// spoil all of a node's memory.
func spoil(n api.Node) {
	for i := range n.Attrs[:cap(n.Attrs)] {
		n.Attrs[:cap(n.Attrs)][i] = api.Attr{Name: "spoilt"}
	}
	kids := n.Kids[:cap(n.Kids)]
	for i := range kids {
		spoil(kids[i].Node)
		kids[i] = kid("spoilt", api.Node{Kind: 77})
	}
}

func spoilAll(l []api.Node) {
	for i := range l[:cap(l)] {
		spoil(l[:cap(l)][i])
		l[:cap(l)][i] = api.Node{Kind: 77}
	}
}

// places in memory that a node's lists have, also behind their ends; how often each.
func places(n api.Node, seen map[any]int) {
	attrs, kids := n.Attrs[:cap(n.Attrs)], n.Kids[:cap(n.Kids)]
	for i := range attrs {
		seen[&attrs[i]]++
	}
	for i := range kids {
		seen[&kids[i]]++
		if seen[&kids[i]] == 1 {
			places(kids[i].Node, seen)
		}
	}
}

// answer: what a call answers.
type answer struct {
	node   api.Node
	names  []string
	is     bool
	layer  int
	layers []int
}

func (a answer) same(b answer) bool {
	return same(a.node, b.node) && slices.Equal(a.names, b.names) && a.is == b.is && a.layer == b.layer && slices.Equal(a.layers, b.layers)
}

func (a answer) places(seen map[any]int) {
	places(a.node, seen)
	for i := range a.names[:cap(a.names)] {
		seen[&a.names[:cap(a.names)][i]]++
	}
	for i := range a.layers[:cap(a.layers)] {
		seen[&a.layers[:cap(a.layers)][i]]++
	}
}

// asked: the calls that are handed layers.
type asked struct {
	name string
	call func(l []api.Node, names []string) answer
}

func calls() []asked {
	return []asked{
		{"Look", func(l []api.Node, names []string) (a answer) {
			a.node, a.layer, a.is = merge.Look(l, names)
			return a
		}},
		{"Along", func(l []api.Node, names []string) (a answer) {
			var nodes []api.Node
			nodes, a.layers = merge.Along(l, names)
			for _, n := range nodes {
				a.node.Kids = append(a.node.Kids, kid("", n))
			}
			return a
		}},
		{"Below", func(l []api.Node, names []string) answer { return answer{is: merge.Below(l, names)} }},
		{"List", func(l []api.Node, names []string) answer { return answer{names: merge.List(l, names)} }},
		{"Flat", func(l []api.Node, names []string) (a answer) {
			a.node, a.is = merge.Flat(l, nil)
			return a
		}},
		{"Flat with a function", func(l []api.Node, names []string) (a answer) {
			a.node, a.is = merge.Flat(l, func(n api.Node, layer int) api.Node {
				n.User += layer
				return n
			})
			return a
		}},
	}
}

// each: all calls, of all layers, with all ways.
func each(f func(what string, c asked, l []api.Node, names []string)) {
	for _, c := range calls() {
		for _, way := range []string{"", "a", "c", "d", "k", "w", "d y", "c x", "c z", "a x", "d k", "q q"} {
			whole, _ := stack()
			for i, l := range [][]api.Node{whole, whole[1:], whole[:1], nil, {full(api.File, 1, kid("a", full(api.File, 2)))}, layers("d(b=w a=d(x=w))|d(a=d(y=fx x=fy) b=f)")} {
				f(fmt.Sprintf("%s of layers %d, %q", c.name, i, way), c, l, names(way))
			}
		}
	}
}

// What is handed in is not written into, nor is what stands behind it read.
func TestZ2HandedIn(t *testing.T) {
	each(func(what string, c asked, l []api.Node, names []string) {
		want := c.call(l, names)
		rl := roomyAll(l)
		rn := append(slices.Clone(names), "a", "x")
		kept, keptNames := wholeAll(rl), slices.Clone(rn)
		got := c.call(rl, rn[:len(names)])
		if wholeAll(rl) != kept || !slices.Equal(rn, keptNames) {
			t.Errorf("%s: what was handed in is written into", what)
		}
		if !got.same(want) {
			t.Errorf("%s: what stands behind what was handed in is read: %v, not %v", what, got, want)
		}
	})
}

// shared: does one of these places stand twice among what came out, or in what was handed in?
func shared(out map[any]int, l []api.Node) bool {
	handed := map[any]int{}
	for _, n := range l[:cap(l)] {
		places(n, handed)
	}
	for place, times := range out {
		if times > 1 || handed[place] > 0 {
			return true
		}
	}
	return false
}

// What comes out is the caller's: no list of it shares memory with another, with what was handed in, or with what comes out next.
func TestZ2Fresh(t *testing.T) {
	each(func(what string, c asked, l []api.Node, names []string) {
		rl := roomyAll(l)
		out := map[any]int{}
		c.call(rl, names).places(out)
		c.call(rl, names).places(out)
		if shared(out, rl) {
			t.Errorf("%s: what comes out shares memory", what)
		}
	})
}

// What comes out stays, whatever becomes of what was handed in; and nothing of that is kept for the next call.
func TestZ2NotKept(t *testing.T) {
	each(func(what string, c asked, l []api.Node, names []string) {
		want := c.call(l, names)
		want.node, want.names = tree.Own(want.node), slices.Clone(want.names)
		rl, rn := roomyAll(l), slices.Clone(names)
		got := c.call(rl, rn)
		spoilAll(rl)
		for i := range rn {
			rn[i] = "spoilt"
		}
		if !got.same(want) {
			t.Errorf("%s: the answer changes with what was handed in: %v", what, got)
		}
		spoil(got.node)
		for i := range got.names {
			got.names[i] = "spoilt"
		}
		if again := c.call(roomyAll(l), names); !again.same(want) {
			t.Errorf("%s: asked again: %v, not %v", what, again, want)
		}
	})
}

// Lists that share memory when they are handed in share none when they come out.
func TestZ2SharedLists(t *testing.T) {
	whole, _ := stack()
	a := full(api.Dir, 3, kid("x", full(api.File, 4)), kid("y", full(api.Dir, 5)))
	twice := full(api.Dir, 6, kid("a", a), kid("c", a), kid("d", whole[1]))
	twice.Attrs = a.Attrs
	for _, c := range calls() {
		for _, way := range []string{"", "a", "d", "d d"} {
			l := []api.Node{twice, twice, a}
			before := wholeAll(l)
			out := map[any]int{}
			c.call(l, names(way)).places(out)
			if shared(out, l) || wholeAll(l) != before {
				t.Errorf("%s, %q: what comes out shares memory, or what was handed in is written into", c.name, way)
			}
		}
	}
}

// What f is handed may be written into: that changes no layer, and no other node.
func TestZ2WhatFIsHanded(t *testing.T) {
	whole, want := stack()
	l := roomyAll(whole)
	before := wholeAll(l)
	got, _ := merge.Flat(l, func(n api.Node, layer int) api.Node {
		kept := tree.Own(n)
		spoil(n)
		return kept
	})
	if wholeAll(l) != before || !same(got, want) {
		t.Errorf("%v", got)
	}
}

// What f makes is not written into or kept, though it answers the same lists each time, nor is what stands behind them read.
func TestZ2WhatFMakes(t *testing.T) {
	whole, _ := stack()
	made := roomy(full(api.Dir, 20, kid("k", full(api.Dir, 21, kid("m", full(api.File, 22)))), kid("a", full(api.File, 23))))
	f := func(n api.Node, layer int) api.Node { return made }
	before := []api.Node{made}
	kept := wholeAll(before)
	got, _ := merge.Flat(whole, f)
	out := map[any]int{}
	places(got, out)
	if shared(out, before) || wholeAll(before) != kept {
		t.Errorf("what f makes is kept, or written into: %v", got)
	}
	want, _ := merge.Flat(whole, func(n api.Node, layer int) api.Node { return tree.Own(made) })
	if !same(got, want) || len(got.Kids) != 5 || got.Kids[2].Name != "a" {
		t.Errorf("what stands behind what f makes is read: %v", got)
	}
	spoil(made)
	if !same(got, want) {
		t.Errorf("the answer changes with what f made: %v", got)
	}
}
