package host_test

import (
	"fmt"
	"slices"
	"testing"

	"idshift/api"
	"idshift/host"
)

// roomy: a list with more behind its end.
func roomy[T any](l []T, more ...T) []T { return append(slices.Clone(l), more...)[:len(l)] }

// roomyNode: the same node in lists that have more behind their ends, which would alter what a lower is.
func roomyNode(n api.Node) api.Node {
	n.Attrs = roomy(n.Attrs, api.Attr{Name: "u.z", Value: "behind"})
	kids := roomy(n.Kids, api.Kid{Name: "z", Node: file("behind")})
	for i := range kids {
		kids[i].Node = roomyNode(kids[i].Node)
	}
	n.Kids = kids
	return n
}

func roomyConfig(c api.Config) api.Config {
	more := api.Range{In: 20, Out: 60000, Count: 100}
	c.Maps.Users, c.Maps.Groups = roomy(c.Maps.Users, more), roomy(c.Maps.Groups, more)
	c.Cred.Groups, c.Lowers = roomy(c.Cred.Groups, 900, 901), roomy(c.Lowers, 1, 1)
	return c
}

// wholeNode: all that stands in a node's memory, also behind the ends of its lists.
func wholeNode(n api.Node) string {
	s := fmt.Sprint(n, n.Attrs[:cap(n.Attrs)])
	for _, k := range n.Kids[:cap(n.Kids)] {
		s += fmt.Sprint(" ", k.Name, "{", wholeNode(k.Node), "}")
	}
	return s
}

func wholeConfig(c api.Config) string {
	return fmt.Sprint(c, c.Maps.Users[:cap(c.Maps.Users)], c.Maps.Groups[:cap(c.Maps.Groups)], c.Cred.Groups[:cap(c.Cred.Groups)], c.Lowers[:cap(c.Lowers)])
}

// spoil a list, to the end of its memory.
func spoil[T any](l []T, with T) {
	l = l[:cap(l)]
	for i := range l {
		l[i] = with
	}
}

func spoilNode(n api.Node) {
	for _, k := range n.Kids[:cap(n.Kids)] {
		spoilNode(k.Node)
	}
	spoil(n.Attrs, api.Attr{Name: "spoilt"})
	spoil(n.Kids, api.Kid{Name: "spoilt", Node: api.Node{Kind: 77}})
}

func spoilConfig(c api.Config) {
	spoil(c.Maps.Users, api.Range{In: -1})
	spoil(c.Maps.Groups, api.Range{In: -1})
	spoil(c.Cred.Groups, -7)
	spoil(c.Lowers, -7)
}

// manyLists: a lower with lists of all kinds.
func manyLists() api.Node {
	n := dir("a", file("A"), "b", dir("c", file("C"), "d", dir()))
	n.Attrs = []api.Attr{{Name: "t.a", Value: "1"}, {Name: "u.a", Value: "2"}}
	n.Kids[1].Node.Attrs = []api.Attr{{Name: "u.b", Value: "3"}}
	n.Kids[1].Node.Kids[0].Node.Attrs = []api.Attr{{Name: "u.c", Value: "4"}}
	return n
}

// manyGroups: a config with lists of all kinds.
func manyGroups() api.Config {
	c := config(5, 0, 0)
	c.Cred.Groups = []int{2, 5, 40}
	return c
}

// What is handed in is neither written into, nor kept, nor is what stands behind it read.
func TestZ2HandedIn(t *testing.T) {
	d, h := start(t, 100)
	n := roomyNode(manyLists())
	before := wholeNode(n)
	addLower(t, h, n, 0)
	if got := wholeNode(n); got != before {
		t.Errorf("a tree has become %s, it was %s", got, before)
	}
	c := roomyConfig(manyGroups())
	told := wholeConfig(c)
	addBox(t, h, c, 0)
	if got := wholeConfig(c); got != told {
		t.Errorf("a config has become %s, it was %s", got, told)
	}
	// The same of those that are refused.
	_, err := h.AddBox(roomyConfig(config(60)))
	if err != api.ErrNoRoom {
		t.Errorf("%v", err)
	}
	_, plain := start(t, 100)
	addLower(t, plain, manyLists(), 0)
	addBox(t, plain, manyGroups(), 0)
	want := seen(plain)
	spoilNode(n)
	spoilConfig(c)
	if got := seen(h); got != want {
		t.Errorf("%s, not %s", got, want)
	}
	if got := seen(peek(t, d)); got != want {
		t.Errorf("opened: %s, not %s", got, want)
	}
	if h.DropLower(0) != api.ErrHeld {
		t.Error("the lower is held no more")
	}
	for _, c := range []api.Call{putting("/n", "x"), {Op: api.CallOwn, Path: "/a", A: 3, B: 40}, {Op: api.CallOwn, Path: "/a", A: 9, B: 5}, {Op: api.CallOwn, Path: "/a", A: 25, B: 5}, {Op: api.CallList, Path: "/b"}} {
		a, err := h.Do(0, c)
		b, wanted := plain.Do(0, c)
		if err != wanted || !sameTold(a, b) {
			t.Errorf("%+v: %v, %v, not %v, %v", c, a, err, b, wanted)
		}
	}
}

// handedOut: all lists that a host hands out.
func handedOut(t *testing.T, h *host.Host) (nodes []api.Node, ints [][]int, names []string) {
	t.Helper()
	low, err := h.Lower(0)
	done(t, err)
	flat, err := h.Flat(0)
	done(t, err)
	upper, err := h.Upper(0)
	done(t, err)
	who, err := h.Cred(0)
	done(t, err)
	told, err := h.Do(0, api.Call{Op: api.CallList, Path: "/"})
	done(t, err)
	return []api.Node{low, flat, upper}, [][]int{who.Groups, h.Lowers(), h.Boxes()}, told.Names
}

// What is handed out is the caller's: when it is spoilt, the host is as it was, and so is all else that was handed out.
func TestZ2HandedOut(t *testing.T) {
	d, h := start(t, 100)
	addLower(t, h, manyLists(), 0)
	addBox(t, h, manyGroups(), 0)
	addBox(t, h, manyGroups(), 1)
	put(t, h, 0, "/b/n", "new")
	_, err := h.Do(0, api.Call{Op: api.CallSet, Path: "/b/n", Name: "u.x", Data: "x"})
	done(t, err)
	seal(t, h, 0, 1)
	for range 2 {
		want := seen(h)
		nodes, ints, names := handedOut(t, h)
		again, _, _ := handedOut(t, h)
		told := fmt.Sprint(again)
		for _, n := range nodes {
			spoilNode(n)
		}
		for _, l := range ints {
			spoil(l, -7)
		}
		spoil(names, "spoilt")
		if got := seen(h); got != want {
			t.Errorf("%s, not %s", got, want)
		}
		if got := fmt.Sprint(again); got != told {
			t.Errorf("what was handed out has become %s, it was %s", got, told)
		}
		if got := seen(peek(t, d)); got != want {
			t.Errorf("opened: %s, not %s", got, want)
		}
		put(t, h, 1, "/b/c", "it goes on")
		h = open(t, d)
	}
	// No two lists of one answer share memory.
	for _, h := range []*host.Host{h, peek(t, d)} {
		nodes, _, _ := handedOut(t, h)
		for i, n := range nodes {
			apart(t, i, n)
		}
	}
}

// apart: each list of a node may be spoilt, and the others stay as they were.
func apart(t *testing.T, i int, n api.Node) {
	t.Helper()
	for k := range n.Kids {
		var others []string
		for j := range n.Kids {
			others = append(others, wholeNode(n.Kids[j].Node))
		}
		spoilNode(n.Kids[k].Node)
		for j := range n.Kids {
			if got := wholeNode(n.Kids[j].Node); j != k && got != others[j] {
				t.Errorf("node %d: kid %d has become %s, it was %s", i, j, got, others[j])
			}
		}
	}
}

// What was handed out stays as it was when the host goes on.
func TestZ2GoesOn(t *testing.T) {
	d, h := start(t, 100)
	addLower(t, h, manyLists(), 0)
	addBox(t, h, manyGroups(), 0)
	put(t, h, 0, "/b/n", "new")
	nodes, ints, names := handedOut(t, h)
	told := fmt.Sprint(nodes, ints, names)
	put(t, h, 0, "/b/n", "newer")
	put(t, h, 0, "/b/c", "written over")
	for _, c := range []api.Call{{Op: api.CallRemove, Path: "/a"}, {Op: api.CallSet, Path: "/b", Name: "u.b", Data: "5"}, {Op: api.CallBe, A: 3, B: 3}} {
		_, err := h.Do(0, c)
		done(t, err)
	}
	addLower(t, h, manyLists(), 1)
	addBox(t, h, config(1), 1)
	done(t, h.DropBox(0))
	done(t, h.DropLower(0))
	darken(t, d)
	if got := fmt.Sprint(nodes, ints, names); got != told {
		t.Errorf("what was handed out has become %s, it was %s", got, told)
	}
}

// The same calls are answered the same, of a host that was opened in between too.
func TestZ2TheSameAgain(t *testing.T) {
	x := die(128)
	_, g := start(t, 150)
	b, h := start(t, 150)
	for range 400 {
		s := drawnStep(&x)
		one, other := s.ofHost(g), s.ofHost(h)
		if one.n != other.n || one.err != other.err || !sameTold(one.told, other.told) || seen(g) != seen(h) {
			t.Fatalf("%+v: %v and %v", s, one, other)
		}
		if x.n(5) == 0 {
			h = open(t, b)
		}
	}
}
