package tree_test

import (
	"fmt"
	"slices"
	"testing"

	"idshift/api"
	"idshift/tree"
)

// roomy: the same node in lists that have more behind their ends: attributes and kids that would alter every answer.
func roomy(n api.Node) api.Node {
	n.Attrs = append(slices.Clone(n.Attrs), api.Attr{Name: "behind"}, api.Attr{Name: "A"})[:len(n.Attrs)]
	kids := append(slices.Clone(n.Kids), kid("k", file("behind")), kid("A", dir(kid("x", file("behind")))))[:len(n.Kids)]
	for i := range kids {
		kids[i].Node = roomy(kids[i].Node)
	}
	n.Kids = kids
	return n
}

// whole: all that stands in a node's memory, also behind the ends of its lists.
func whole(n api.Node) string {
	s := fmt.Sprintf("%d %d %d %d %v %q %d %d %q", n.Kind, n.Mode, n.User, n.Group, n.Opaque, n.Data, len(n.Attrs), len(n.Kids), n.Attrs[:cap(n.Attrs)])
	for _, k := range n.Kids[:cap(n.Kids)] {
		s += fmt.Sprintf(" %q {%s}", k.Name, whole(k.Node))
	}
	return s
}

// spoil all of a node's memory.
func spoil(n api.Node) {
	for i := range n.Attrs[:cap(n.Attrs)] {
		n.Attrs[:cap(n.Attrs)][i] = api.Attr{Name: "spoilt"}
	}
	kids := n.Kids[:cap(n.Kids)]
	for i := range kids {
		spoil(kids[i].Node)
		kids[i] = kid("spoilt", api.Node{Kind: 77})
	}
}

// places in memory that a node's lists have, also behind their ends; how often each.
func places(n api.Node, seen map[any]int) {
	attrs, kids := n.Attrs[:cap(n.Attrs)], n.Kids[:cap(n.Kids)]
	for i := range attrs {
		seen[&attrs[i]]++
	}
	for i := range kids {
		seen[&kids[i]]++
		if seen[&kids[i]] == 1 {
			places(kids[i].Node, seen)
		}
	}
}

// asked: the calls that are handed a node, and of those that answer one what they answer.
type asked struct {
	name string
	call func(n, x api.Node, l []string) api.Node
}

func calls() []asked {
	return []asked{
		{"Check", func(n, x api.Node, l []string) api.Node { tree.Check(n, true); tree.Check(n, false); return api.Node{} }},
		{"Bytes", func(n, x api.Node, l []string) api.Node { tree.Bytes(n); tree.Size(n); return api.Node{} }},
		{"Own", func(n, x api.Node, l []string) api.Node { return tree.Own(n) }},
		{"Find", func(n, x api.Node, l []string) api.Node { n, _ = tree.Find(n, l); return n }},
		{"Put", func(n, x api.Node, l []string) api.Node { n, _ = tree.Put(n, l, x); return n }},
		{"Cut", func(n, x api.Node, l []string) api.Node { n, _ = tree.Cut(n, l); return n }},
	}
}

// ways through sample and odd: at the head, between, at the end, in the place of one, within, and such as have errors.
func ways() []string {
	return []string{"", "a", "b", "c", "d", "h", "k", "m", "p", "z", "A", "d a", "d p", "d q", "d z", "d r s", "d r t", "b x", "x y", "c x", "c =", "c = x", "c A/", "m x", "f x", "h x"}
}

// each: all calls, of all trees, with all ways, each in memory of its own.
func each(f func(what string, c asked, n, x api.Node, l []string)) {
	for _, c := range calls() {
		for _, way := range ways() {
			for i, n := range []api.Node{sample(), odd(), dir(), api.Node{Kind: api.File, Kids: numbered(2, sample()), Attrs: attrs("u.a")}} {
				f(fmt.Sprintf("%s of tree %d, %q", c.name, i, way), c, n, odd(), l(way))
			}
		}
	}
}

// What is handed in is not written into, nor is what stands behind it read.
func TestZ2HandedIn(t *testing.T) {
	each(func(what string, c asked, n, x api.Node, l []string) {
		want := c.call(n, x, l)
		rn, rx := roomy(n), roomy(x)
		names := append(slices.Clone(l), "b", "x")
		keptN, keptX, kept := whole(rn), whole(rx), slices.Clone(names)
		got := c.call(rn, rx, names[:len(l)])
		if whole(rn) != keptN || whole(rx) != keptX || !slices.Equal(names, kept) {
			t.Errorf("%s: what was handed in is written into", what)
		}
		if !same(got, want) {
			t.Errorf("%s: what stands behind what was handed in is read: %v, not %v", what, got, want)
		}
		if tree.Check(rn, true) != tree.Check(n, true) || tree.Size(rn) != tree.Size(n) {
			t.Errorf("%s: Check and Size read what stands behind", what)
		}
	})
}

// What comes out is the caller's: no list of it shares memory with another, with what was handed in, or with what comes out next.
func TestZ2Fresh(t *testing.T) {
	each(func(what string, c asked, n, x api.Node, l []string) {
		rn, rx := roomy(n), roomy(x)
		first := c.call(rn, rx, l)
		second := c.call(rn, rx, l)
		seen := map[any]int{}
		places(first, seen)
		places(second, seen)
		for _, times := range seen {
			if times > 1 {
				t.Errorf("%s: two lists of what comes out share memory", what)
				break
			}
		}
		handed := map[any]int{}
		places(rn, handed)
		places(rx, handed)
		for place := range handed {
			if seen[place] > 0 {
				t.Errorf("%s: what comes out shares memory with what was handed in", what)
				break
			}
		}
	})
}

// What comes out stays, whatever becomes of what was handed in; and nothing of that is kept for the next call.
func TestZ2NotKept(t *testing.T) {
	each(func(what string, c asked, n, x api.Node, l []string) {
		want := tree.Own(c.call(n, x, l))
		rn, rx := roomy(n), roomy(x)
		got := c.call(rn, rx, l)
		spoil(rn)
		spoil(rx)
		if !same(got, want) {
			t.Errorf("%s: the answer changes with what was handed in: %v", what, got)
		}
		spoil(got)
		if again := c.call(roomy(n), roomy(x), l); !same(again, want) {
			t.Errorf("%s: asked again: %v, not %v", what, again, want)
		}
	})
}

// Lists that share memory when they are handed in share none when they come out.
func TestZ2SharedLists(t *testing.T) {
	a := with(sample(), func(n *api.Node) { n.Kids = n.Kids[:3] })
	twice := dir(kid("b", a), kid("d", a), kid("e", dir(kid("a", a))), kid("p", a))
	twice.Attrs = a.Attrs
	for _, c := range calls() {
		for _, way := range ways() {
			before := whole(twice)
			seen := map[any]int{}
			places(c.call(twice, twice, l(way)), seen)
			for _, times := range seen {
				if times > 1 {
					t.Errorf("%s, %q: two lists of what comes out share memory", c.name, way)
					break
				}
			}
			if whole(twice) != before {
				t.Errorf("%s, %q: what was handed in is written into", c.name, way)
			}
		}
	}
}

// What Parse finds is fresh each time.
func TestZ2ParseFresh(t *testing.T) {
	s, _ := tree.Bytes(sample())
	first, _ := tree.Parse(s, true)
	second, _ := tree.Parse(s, true)
	seen := map[any]int{}
	places(first, seen)
	places(second, seen)
	for _, times := range seen {
		if times > 1 {
			t.Fatal("two lists of what comes out share memory")
		}
	}
	spoil(first)
	if third, err := tree.Parse(s, true); err != nil || !same(second, sample()) || !same(third, sample()) {
		t.Errorf("%v, %v, %v", second, third, err)
	}
}
