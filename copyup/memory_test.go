package copyup_test

import (
	"fmt"
	"slices"
	"testing"

	"idshift/api"
	"idshift/copyup"
	"idshift/tree"
)

// roomy: the same node in lists that have more behind their ends, which would alter every answer.
func roomy(n api.Node) api.Node {
	n.Attrs = append(slices.Clone(n.Attrs), api.Attr{Name: "behind"}, api.Attr{Name: "A"})[:len(n.Attrs)]
	kids := append(slices.Clone(n.Kids), kid("a", node("d(b=fk)")), kid("k", node("fk")), kid("b", node("w")))[:len(n.Kids)]
	for i := range kids {
		kids[i].Node = roomy(kids[i].Node)
	}
	n.Kids = kids
	return n
}

// roomyAll: layers, with one more behind their end.
func roomyAll(l []api.Node) []api.Node {
	var all []api.Node
	for _, n := range l {
		all = append(all, roomy(n))
	}
	return append(all, node("d(a=d(b=fk) k=fk)"))[:len(l)]
}

// roomyMaps: maps, with one range more behind their ends.
func roomyMaps(m api.Maps) api.Maps {
	more := api.Range{In: 10, Out: 1010, Count: 100}
	return api.Maps{Users: append(slices.Clone(m.Users), more)[:len(m.Users)], Groups: append(slices.Clone(m.Groups), more)[:len(m.Groups)]}
}

// whole: all that stands in a node's memory, also behind the ends of its lists.
func whole(n api.Node) string {
	s := fmt.Sprintf("%d %d %d %d %v %q %d %d %q", n.Kind, n.Mode, n.User, n.Group, n.Opaque, n.Data, len(n.Attrs), len(n.Kids), n.Attrs[:cap(n.Attrs)])
	for _, k := range n.Kids[:cap(n.Kids)] {
		s += fmt.Sprintf(" %q {%s}", k.Name, whole(k.Node))
	}
	return s
}

// wholeAll: all that stands in what is handed in.
func wholeAll(l []api.Node, m api.Maps, names []string) string {
	s := fmt.Sprint(len(l), m.Users[:cap(m.Users)], m.Groups[:cap(m.Groups)], names[:cap(names)])
	for _, n := range l[:cap(l)] {
		s += "|" + whole(n)
	}
	return s
}

// spoil all of a node's memory.
func spoil(n api.Node) {
	for i := range n.Attrs[:cap(n.Attrs)] {
		n.Attrs[:cap(n.Attrs)][i] = api.Attr{Name: "spoilt"}
	}
	kids := n.Kids[:cap(n.Kids)]
	for i := range kids {
		spoil(kids[i].Node)
		kids[i] = kid("spoilt", api.Node{Kind: 77})
	}
}

// spoilAll that was handed in.
func spoilAll(l []api.Node, m api.Maps, names []string) {
	for i := range l[:cap(l)] {
		spoil(l[:cap(l)][i])
		l[:cap(l)][i] = api.Node{Kind: 77}
	}
	clear(m.Users)
	clear(m.Groups)
	for i := range names {
		names[i] = "spoilt"
	}
}

// places in memory that a node's lists have, also behind their ends; how often each.
func places(n api.Node, seen map[any]int) {
	attrs, kids := n.Attrs[:cap(n.Attrs)], n.Kids[:cap(n.Kids)]
	for i := range attrs {
		seen[&attrs[i]]++
	}
	for i := range kids {
		seen[&kids[i]]++
		if seen[&kids[i]] == 1 {
			places(kids[i].Node, seen)
		}
	}
}

// shared: does one of these places stand twice among what came out, or in what was handed in?
func shared(out map[any]int, l []api.Node) bool {
	handed := map[any]int{}
	for _, n := range l[:cap(l)] {
		places(n, handed)
	}
	for place, times := range out {
		if times > 1 || handed[place] > 0 {
			return true
		}
	}
	return false
}

// answer: what a call answers.
type answer struct {
	node  api.Node
	thing api.Thing
	err   error
}

func (a answer) same(b answer) bool {
	return same(a.node, b.node) && a.thing == b.thing && a.err == b.err
}

// asked: the calls; those of one node are handed the first layer.
type asked struct {
	name string
	call func(l []api.Node, m api.Maps, names []string) answer
}

func calls() []asked {
	return []asked{
		{"Inside", func(l []api.Node, m api.Maps, names []string) (a answer) {
			a.node, a.err = copyup.Inside(m, l[0])
			return a
		}},
		{"Outside", func(l []api.Node, m api.Maps, names []string) (a answer) {
			a.node, a.err = copyup.Outside(m, l[0])
			return a
		}},
		{"Seen", func(l []api.Node, m api.Maps, names []string) answer {
			return answer{thing: copyup.Seen(m, l[0], len(names) > 0)}
		}},
		{"Up", func(l []api.Node, m api.Maps, names []string) (a answer) {
			a.node, a.err = copyup.Up(l, m, names)
			return a
		}},
	}
}

// stacks of layers: in the first node ids of each side, as it is handed to the calls of one node too.
func stacks() [][]api.Node {
	low := full(api.Dir, 3, 4, kid("a", full(api.Dir, 5, 2, kid("b", full(api.File, 6, 1)), kid("c", full(api.Dir, 7, 0)))), kid("e", full(api.File, 10, 4)))
	top := full(api.Dir, 1001, 1002, kid("a", full(api.Dir, 1003, 1001, kid("d", full(api.File, 1004, 1000)))), kid("f", full(api.White, 0, 0)))
	return [][]api.Node{{top, low}, {full(api.Dir, 1001, 1002), low, low}, {low, top}, {low}, {full(api.File, 10, 5, kid("a", low))}}
}

// each: all calls, of all layers, with all ways.
func each(f func(what string, c asked, l []api.Node, names []string)) {
	for _, c := range calls() {
		for i, l := range stacks() {
			for _, way := range []string{"", "a", "a b", "a c", "a d", "e", "f", "k", "a k"} {
				f(fmt.Sprintf("%s of layers %d, %q", c.name, i, way), c, l, names(way))
			}
		}
	}
}

// What is handed in is not written into, nor is what stands behind it read.
func TestZ2HandedIn(t *testing.T) {
	each(func(what string, c asked, l []api.Node, names []string) {
		want := c.call(l, maps(), names)
		rl, rm := roomyAll(l), roomyMaps(maps())
		rn := append(slices.Clone(names), "a", "b")[:len(names)]
		kept := wholeAll(rl, rm, rn)
		got := c.call(rl, rm, rn)
		if wholeAll(rl, rm, rn) != kept {
			t.Errorf("%s: what was handed in is written into", what)
		}
		if !got.same(want) {
			t.Errorf("%s: what stands behind what was handed in is read: %v, not %v", what, got, want)
		}
	})
}

// What comes out is the caller's: no list of it shares memory with another, with what was handed in, or with what comes out next.
func TestZ2Fresh(t *testing.T) {
	each(func(what string, c asked, l []api.Node, names []string) {
		rl := roomyAll(l)
		out := map[any]int{}
		places(c.call(rl, maps(), names).node, out)
		places(c.call(rl, maps(), names).node, out)
		if shared(out, rl) {
			t.Errorf("%s: what comes out shares memory", what)
		}
	})
}

// What comes out stays, whatever becomes of what was handed in; and nothing of that is kept for the next call.
func TestZ2NotKept(t *testing.T) {
	each(func(what string, c asked, l []api.Node, names []string) {
		want := c.call(l, maps(), names)
		want.node = tree.Own(want.node)
		rl, rm, rn := roomyAll(l), maps(), slices.Clone(names)
		got := c.call(rl, rm, rn)
		spoilAll(rl, rm, rn)
		if !got.same(want) {
			t.Errorf("%s: the answer changes with what was handed in: %v", what, got)
		}
		spoil(got.node)
		if again := c.call(roomyAll(l), maps(), names); !again.same(want) {
			t.Errorf("%s: asked again: %v, not %v", what, again, want)
		}
	})
}

// Lists that share memory when they are handed in share none when they come out.
func TestZ2SharedLists(t *testing.T) {
	a := full(api.Dir, 1, 2, kid("b", full(api.Dir, 3, 4, kid("c", full(api.File, 5, 1)))))
	a.Kids[0].Node.Attrs = a.Attrs
	twice := full(api.Dir, 6, 3, kid("a", a), kid("d", a))
	twice.Attrs = a.Attrs
	top := full(api.Dir, 1001, 1002, kid("d", a), kid("e", a))
	for _, c := range calls() {
		for _, way := range []string{"", "a", "a b", "a b c", "d", "d b", "e"} {
			for _, l := range [][]api.Node{{top, twice, twice}, {twice, twice, twice}} {
				before := wholeAll(l, api.Maps{}, nil)
				out := map[any]int{}
				places(c.call(l, maps(), names(way)).node, out)
				if shared(out, l) || wholeAll(l, api.Maps{}, nil) != before {
					t.Errorf("%s, %q: what comes out shares memory, or what was handed in is written into", c.name, way)
				}
			}
		}
	}
}
