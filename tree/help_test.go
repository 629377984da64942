package tree_test

import (
	"slices"
	"strconv"
	"strings"

	"idshift/api"
)

func file(data string) api.Node {
	return api.Node{Kind: api.File, Mode: 420, User: 1000, Group: 1001, Data: data}
}

func dir(kids ...api.Kid) api.Node {
	return api.Node{Kind: api.Dir, Mode: 493, User: 7, Group: 8, Kids: kids}
}

func white() api.Node { return api.Node{Kind: api.White} }

func kid(name string, n api.Node) api.Kid { return api.Kid{Name: name, Node: n} }

// with: a node, otherwise.
func with(n api.Node, alter func(n *api.Node)) api.Node {
	alter(&n)
	return n
}

// closed: a directory that is Opaque.
func closed(kids ...api.Kid) api.Node {
	return with(dir(kids...), func(n *api.Node) { n.Opaque = true })
}

// numbered: n kids whose names rise, all of one node.
func numbered(n int, x api.Node) []api.Kid {
	var l []api.Kid
	for i := range n {
		l = append(l, kid("k"+strconv.Itoa(100+i), x))
	}
	return l
}

// chain of so many names, and a node at its end.
func chain(names int, end api.Node) api.Node {
	for range names {
		end = dir(kid("a", end))
	}
	return end
}

func attrs(names ...string) []api.Attr {
	var l []api.Attr
	for _, name := range names {
		l = append(l, api.Attr{Name: name, Value: "v" + name})
	}
	return l
}

func long(n int) string { return strings.Repeat("n", n) }

// same: are both the same? (An empty list may be nil or not.)
func same(a, b api.Node) bool {
	return a.Kind == b.Kind && a.Mode == b.Mode && a.User == b.User && a.Group == b.Group && a.Opaque == b.Opaque && a.Data == b.Data &&
		slices.Equal(a.Attrs, b.Attrs) &&
		slices.EqualFunc(a.Kids, b.Kids, func(x, y api.Kid) bool { return x.Name == y.Name && same(x.Node, y.Node) })
}

// zero: is it the zero value?
func zero(n api.Node) bool { return same(n, api.Node{}) }

// sample: a tree that may be in an upper, with all that a tree may have.
func sample() api.Node {
	f := file("hello")
	f.Attrs = attrs("t.a", "u.a")
	g := dir(kid("p", file("")), kid("q", white()), kid("r", closed(kid("s", file("deep")))))
	g.Attrs = attrs("u.b")
	n := dir(kid("b", f), kid("d", g), kid("d.", white()), kid("f", closed()), kid("h", dir()))
	n.Attrs = attrs("t.x", "t.y", "u.x", "u.y")
	n.Mode, n.User, n.Group = api.MaxMode, api.MaxID, 258
	return n
}

// odd: a tree that Check would refuse, and of which kids can be found nonetheless: some have the same name, fall, have names that are none, or stand in what is no directory.
func odd() api.Node {
	return api.Node{Kind: api.Dir, Mode: -5, User: 1 << 40, Opaque: true, Data: long(300), Attrs: attrs("x", "x", "", "u.z", "A", "B"), Kids: []api.Kid{
		kid("m", file("first m")),
		kid("c", dir(kid("", dir(kid("x", file("within no name")))), kid("A/", file("A")), kid("x", file("x of c")))),
		kid("m", dir(kid("x", file("second m's x")))),
		kid("c", dir(kid("y", file("y of second c")))),
		kid("w", api.Node{Kind: api.White, Kids: []api.Kid{kid("x", file("of a White"))}}),
		kid("v", api.Node{Kind: 9, Kids: []api.Kid{kid("x", file("of no kind"))}}),
		kid("f", api.Node{Kind: api.File, Kids: []api.Kid{kid("x", file("of a File"))}}),
		kid("p", dir()),
	}}
}
