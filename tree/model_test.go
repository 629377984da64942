package tree_test

import (
	"maps"
	"slices"
	"strings"
	"testing"

	"idshift/api"
	"idshift/tree"
)

// flat: a second telling of a tree: each node without its kids, by its path ("" is the tree itself).
type flat map[string]api.Node

// flatten a tree whose kids have a name each.
func flatten(n api.Node, at string, m flat) flat {
	for _, k := range n.Kids {
		flatten(k.Node, at+"/"+k.Name, m)
	}
	n.Kids = nil
	m[at] = n
	return m
}

// grow the tree again: kids rise by their names.
func (m flat) grow(at string) api.Node {
	n := m[at]
	for _, p := range slices.Sorted(maps.Keys(m)) {
		if name, is := strings.CutPrefix(p, at+"/"); is && !strings.Contains(name, "/") {
			n.Kids = append(n.Kids, kid(name, m.grow(p)))
		}
	}
	return n
}

// without a path, and all below it.
func (m flat) without(at string) flat {
	maps.DeleteFunc(m, func(p string, _ api.Node) bool { return p == at || strings.HasPrefix(p, at+"/") })
	return m
}

// lead: what is told of the way to the last name.
func (m flat) lead(l []string) error {
	at := ""
	for i := range l {
		if i > 0 {
			at += "/" + l[i-1]
		}
		n, is := m[at]
		switch {
		case !is:
			return api.ErrNone
		case n.Kind != api.Dir:
			return api.ErrKind
		}
	}
	if len(l) == 0 {
		return api.ErrKind
	}
	return nil
}

// grown: trees of all shapes of two names, two deep: each kid is missing, a file, a White or a directory.
func grown(deep int) []api.Node {
	kinds := []api.Node{file("f"), white()}
	if deep == 0 {
		kinds = append(kinds, dir())
	} else {
		kinds = append(kinds, grown(deep-1)...)
	}
	var l []api.Node
	for i := range len(kinds) + 1 {
		for j := range len(kinds) + 1 {
			n := dir()
			if i > 0 {
				n.Kids = append(n.Kids, kid("b", kinds[i-1]))
			}
			if j > 0 {
				n.Kids = append(n.Kids, kid("d", kinds[j-1]))
			}
			l = append(l, n)
		}
	}
	return l
}

// Find, Put and Cut do with a tree what the same does with its paths.
func TestT2AsPaths(t *testing.T) {
	trees := grown(1)
	if len(trees) != 361 {
		t.Fatalf("%d trees", len(trees))
	}
	x := dir(kid("b", file("new")))
	for _, n := range trees {
		for _, way := range []string{"", "a", "b", "c", "d", "e", "b b", "b c", "b d", "d a", "d b", "d d", "c b", "b b b", "d b c", "b c b", "d d d d"} {
			names := l(way)
			p := strings.Join(append([]string{""}, names...), "/")
			findAsPaths(t, n, names, p)
			putAsPaths(t, n, names, p, x)
			cutAsPaths(t, n, names, p)
		}
		roundTrip(t, n)
	}
}

func findAsPaths(t *testing.T, n api.Node, names []string, p string) {
	t.Helper()
	m := flatten(n, "", flat{})
	_, want := m[p]
	got, is := tree.Find(n, names)
	if is != want || is && !same(got, m.grow(p)) || !is && !zero(got) {
		t.Errorf("Find(%v, %q): %v, %v", n, names, got, is)
	}
}

func putAsPaths(t *testing.T, n api.Node, names []string, p string, x api.Node) {
	t.Helper()
	m := flatten(n, "", flat{})
	got, err := tree.Put(n, names, x)
	if want := m.lead(names); want != nil {
		if err != want || !zero(got) {
			t.Errorf("Put(%v, %q): %v, %v, not %v", n, names, got, err, want)
		}
		return
	}
	if want := flatten(x, p, m.without(p)).grow(""); err != nil || !same(got, want) {
		t.Errorf("Put(%v, %q): %v, %v, not %v", n, names, got, err, want)
	}
}

func cutAsPaths(t *testing.T, n api.Node, names []string, p string) {
	t.Helper()
	m := flatten(n, "", flat{})
	want := m.lead(names)
	if _, is := m[p]; want == nil && !is {
		want = api.ErrNone
	}
	got, err := tree.Cut(n, names)
	if err != want || err != nil && !zero(got) || err == nil && !same(got, m.without(p).grow("")) {
		t.Errorf("Cut(%v, %q): %v, %v, not %v", n, names, got, err, want)
	}
}

// roundTrip: a tree that may be is found again in its bytes; in no upper just if it may be there too.
func roundTrip(t *testing.T, n api.Node) {
	t.Helper()
	s, err := tree.Bytes(n)
	got, err2 := tree.Parse(s, true)
	if err != nil || err2 != nil || !same(got, n) || tree.Size(n) != len(s) {
		t.Errorf("%v: %x, %v; %v, %v", n, s, err, got, err2)
	}
	got, err = tree.Parse(s, false)
	if may := tree.Check(n, false) == nil; may != (err == nil) || may && !same(got, n) || !may && (err != api.ErrText || !zero(got)) {
		t.Errorf("%v in no upper: %v, %v", n, got, err)
	}
}
