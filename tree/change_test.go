package tree_test

import (
	"runtime/debug"
	"slices"
	"strings"
	"testing"

	"idshift/api"
	"idshift/tree"
)

// l: names, with blanks between; "=" stands for an empty one.
func l(s string) []string {
	names := strings.Fields(s)
	for i, name := range names {
		if name == "=" {
			names[i] = ""
		}
	}
	return names
}

func TestT2Own(t *testing.T) {
	for _, n := range []api.Node{
		{}, {Kind: 9, Mode: -1, User: -2, Group: 1 << 40, Opaque: true, Data: long(1000)},
		{Kind: api.File, Data: "x"}, white(), dir(), closed(), sample(), odd(),
		{Kind: api.File, Kids: []api.Kid{kid("", odd())}, Attrs: attrs("A", "")},
		chain(20, odd()), dir(numbered(500, sample())...),
	} {
		if got := tree.Own(n); !same(got, n) {
			t.Errorf("Own(%v): %v", n, got)
		}
	}
}

func TestT2Find(t *testing.T) {
	s, o := sample(), odd()
	for _, x := range []struct {
		name  string
		n     api.Node
		names string
		want  api.Node
	}{
		{"no names", s, "", s},
		{"no names, of a file", file("x"), "", file("x")},
		{"no names, of a White", white(), "", white()},
		{"no names, of no kind", api.Node{Kind: 9, Data: "x"}, "", api.Node{Kind: 9, Data: "x"}},
		{"the first kid", s, "b", s.Kids[0].Node},
		{"a kid between", s, "d", s.Kids[1].Node},
		{"a name that goes on", s, "d.", white()},
		{"the last kid", s, "h", dir()},
		{"a kid's kid", s, "d p", file("")},
		{"a White", s, "d q", white()},
		{"in what is Opaque", s, "d r s", file("deep")},
		{"as deep as may be", chain(6, file("end")), "a a a a a a", file("end")},
		{"deeper", chain(9, file("end")), "a a a a a a a a a", file("end")},
		{"on the way", chain(9, file("end")), "a a a a a a a a", dir(kid("a", file("end")))},
		{"the first one of two", o, "m", file("first m")},
		{"the first one of two, a directory", o, "c x", file("x of c")},
		{"a name that is none", o, "c A/", file("A")},
		{"an empty name", o, "c = x", file("within no name")},
	} {
		if got, is := tree.Find(x.n, l(x.names)); !is || !same(got, x.want) {
			t.Errorf("%s: Find(%q): %v, %v", x.name, x.names, got, is)
		}
	}
}

func TestT2FindNothing(t *testing.T) {
	for _, x := range []struct {
		name  string
		n     api.Node
		names string
	}{
		{"no kids", dir(), "a"},
		{"no such kid", sample(), "a"},
		{"the beginning of a name", sample(), "d.."},
		{"no such kid of a kid", sample(), "d s"},
		{"through nothing", sample(), "x p"},
		{"through a file", sample(), "b x"},
		{"through a White", sample(), "d. x"},
		{"of a file", file("x"), "a"},
		{"behind the end", chain(6, file("")), "a a a a a a a"},
		{"an empty name", sample(), "="},
		{"'/'", sample(), "/"},
		{"a path in one piece", sample(), "d/p"},
		{"kids of a file", odd(), "f x"},
		{"kids of a White", odd(), "w x"},
		{"kids of no kind", odd(), "v x"},
		{"the first one of two is a file", odd(), "m x"},
		{"the first one of two has it not", odd(), "c y"},
		{"kids of a tree that is a file", with(odd(), func(n *api.Node) { n.Kind = api.File }), "m"},
		{"kids of a tree of no kind", with(odd(), func(n *api.Node) { n.Kind = 0 }), "p"},
	} {
		if got, is := tree.Find(x.n, l(x.names)); is || !zero(got) {
			t.Errorf("%s: Find(%q): %v, %v", x.name, x.names, got, is)
		}
	}
}

// changed: a tree, names, and what is there behind Put or Cut.
type changed struct {
	name  string
	n     api.Node
	names string
	want  api.Node
}

func putAll(t *testing.T, x api.Node, list []changed) {
	t.Helper()
	for _, c := range list {
		if got, err := tree.Put(c.n, l(c.names), x); err != nil || !same(got, c.want) {
			t.Errorf("%s: Put(%q): %v, %v", c.name, c.names, got, err)
		}
	}
}

func TestT2Put(t *testing.T) {
	b, d, f := kid("b", file("b")), kid("d", dir(kid("x", file("x")))), kid("f", white())
	three := func() api.Node { return dir(b, d, f) }
	for _, x := range []api.Node{file("new"), dir(kid("y", file("y"))), white(), closed(), {}, {Kind: 9, Mode: -1, Data: long(300)}, odd(), sample()} {
		of := func(name string) api.Kid { return kid(name, x) }
		putAll(t, x, []changed{
			{"where nothing is", dir(), "a", dir(of("a"))},
			{"at the head", three(), "a", dir(of("a"), b, d, f)},
			{"behind the first", three(), "c", dir(b, of("c"), d, f)},
			{"behind the second", three(), "e", dir(b, d, of("e"), f)},
			{"at the end", three(), "g", dir(b, d, f, of("g"))},
			{"in the place of the first", three(), "b", dir(of("b"), d, f)},
			{"in the place of a directory", three(), "d", dir(b, of("d"), f)},
			{"in the place of the last", three(), "f", dir(b, d, of("f"))},
			{"in a kid, at the head", three(), "d a", dir(b, kid("d", dir(of("a"), kid("x", file("x")))), f)},
			{"in a kid, at the end", three(), "d y", dir(b, kid("d", dir(kid("x", file("x")), of("y"))), f)},
			{"in a kid, in the place of one", three(), "d x", dir(b, kid("d", dir(of("x"))), f)},
			{"by the bytes of names", dir(kid("10", b.Node), kid("a", b.Node)), "9", dir(kid("10", b.Node), of("9"), kid("a", b.Node))},
			{"behind a name that it goes on", dir(kid("a", b.Node), kid("b", b.Node)), "aa", dir(kid("a", b.Node), of("aa"), kid("b", b.Node))},
			{"ahead of a name that goes on", dir(kid("aa", b.Node)), "a", dir(of("a"), kid("aa", b.Node))},
			{"ahead of a name that goes on by less than a letter", dir(kid("a-", b.Node), kid("aa", b.Node)), "a", dir(of("a"), kid("a-", b.Node), kid("aa", b.Node))},
			{"a name as long as may be", dir(), long(api.MaxName), dir(of(long(api.MaxName)))},
			{"in what is Opaque", dir(kid("o", closed())), "o a", dir(kid("o", closed(of("a"))))},
			{"in a tree that is Opaque", closed(b), "a", closed(of("a"), b)},
			{"deeper than may be", chain(8, dir()), "a a a a a a a a z", chain(8, dir(of("z")))},
			{"behind as many as may be", dir(numbered(100, file(""))...), "z", dir(append(numbered(100, file("")), of("z"))...)},
		})
	}
}

// at: a tree with another node in the place of a kid.
func at(n api.Node, i int, k ...api.Kid) api.Node {
	n.Kids = slices.Concat(n.Kids[:i], k, n.Kids[i+1:])
	return n
}

func TestT2PutIntoWhatMayNotBe(t *testing.T) {
	x := file("new")
	falling := dir(kid("p", x), kid("c", x), kid("z", x), kid("b", x), kid("y", x))
	ahead := func(i int, name string) api.Node {
		return with(falling, func(n *api.Node) { n.Kids = slices.Insert(slices.Clone(n.Kids), i, kid(name, x)) })
	}
	o := odd()
	putAll(t, x, []changed{
		{"the first of two", o, "m", at(o, 0, kid("m", x))},
		{"in the first of two", o, "c x", at(o, 1, kid("c", dir(o.Kids[1].Node.Kids[0], o.Kids[1].Node.Kids[1], kid("x", x))))},
		{"in the first of two, where the second has one", o, "c y", at(o, 1, kid("c", with(o.Kids[1].Node, func(n *api.Node) { n.Kids = append(slices.Clip(n.Kids), kid("y", x)) })))},
		{"in what has no name", o, "c = x", at(o, 1, kid("c", dir(kid("", dir(kid("x", x))), o.Kids[1].Node.Kids[1], o.Kids[1].Node.Kids[2])))},
		{"ahead of the first that is above, the head", falling, "a", ahead(0, "a")},
		{"ahead of the first that is above, others below behind it", falling, "d", ahead(0, "d")},
		{"ahead of the first that is above, behind one below", falling, "q", ahead(2, "q")},
		{"none is above", falling, "zz", ahead(5, "zz")},
		{"the same name behind one above", falling, "b", falling},
	})
}

func TestT2PutErrors(t *testing.T) {
	for _, x := range []struct {
		name  string
		n     api.Node
		names string
		want  error
	}{
		{"no names", sample(), "", api.ErrKind},
		{"no names, of a file", file(""), "", api.ErrKind},
		{"in a file", file(""), "a", api.ErrKind},
		{"in a White", white(), "a", api.ErrKind},
		{"in no kind", api.Node{}, "a", api.ErrKind},
		{"in a file, a name that is none", file(""), "A", api.ErrKind},
		{"in a file, more names", file(""), "a b", api.ErrKind},
		{"through a file", sample(), "b x", api.ErrKind},
		{"through a file, more names", sample(), "b x y", api.ErrKind},
		{"through a file, a name that is none", sample(), "b A", api.ErrKind},
		{"through a White", sample(), "d. x", api.ErrKind},
		{"through a White within", sample(), "d q x", api.ErrKind},
		{"through nothing", sample(), "a x", api.ErrNone},
		{"through nothing within", sample(), "d x y", api.ErrNone},
		{"through nothing, a name that is none", sample(), "a A", api.ErrNone},
		{"through a name that is none", sample(), "A x", api.ErrNone},
		{"through an empty name", sample(), "= x", api.ErrNone},
		{"a name that is none", sample(), "A", api.ErrName},
		{"an empty name", sample(), "=", api.ErrName},
		{"'.'", sample(), ".", api.ErrName},
		{"'..'", sample(), "d ..", api.ErrName},
		{"a name too long", sample(), long(api.MaxName + 1), api.ErrName},
		{"a path in one piece", sample(), "d/p", api.ErrName},
		{"a name that is none, and that a kid has", odd(), "c A/", api.ErrName},
		{"an empty name that a kid has", odd(), "c =", api.ErrName},
		{"through the first of two, a file", odd(), "m x", api.ErrKind},
		{"through the first of two, which has it not", odd(), "c y z", api.ErrNone},
		{"through kids of a file", odd(), "f x", api.ErrKind},
		{"through kids of a White", odd(), "w x y", api.ErrKind},
		{"through kids of no kind", odd(), "v x", api.ErrKind},
	} {
		if got, err := tree.Put(x.n, l(x.names), file("new")); err != x.want || !zero(got) {
			t.Errorf("%s: Put(%q): %v, %v, not %v", x.name, x.names, got, err, x.want)
		}
	}
}

func TestT2Cut(t *testing.T) {
	b, d, f := kid("b", file("b")), kid("d", dir(kid("x", file("x")), kid("y", white()))), kid("f", white())
	three := func() api.Node { return dir(b, d, f) }
	o := odd()
	for _, c := range []changed{
		{"the only one", dir(b), "b", dir()},
		{"the first", three(), "b", dir(d, f)},
		{"between, with kids", three(), "d", dir(b, f)},
		{"the last", three(), "f", dir(b, d)},
		{"the first of a kid's", three(), "d x", dir(b, kid("d", dir(kid("y", white()))), f)},
		{"the last of a kid's", three(), "d y", dir(b, kid("d", dir(kid("x", file("x")))), f)},
		{"of what is Opaque", dir(kid("o", closed(b, f))), "o b", dir(kid("o", closed(f)))},
		{"of a tree that is Opaque", closed(b, f), "f", closed(b)},
		{"what leads on", chain(3, file("")), "a a", dir(kid("a", dir()))},
		{"deeper than may be", chain(9, file("")), "a a a a a a a a a", chain(8, dir())},
		{"the first of two", o, "m", at(o, 0)},
		{"the first of two, a directory", o, "c", at(o, 1)},
		{"in the first of two", o, "c x", at(o, 1, kid("c", dir(o.Kids[1].Node.Kids[:2]...)))},
		{"a name that is none", o, "c A/", at(o, 1, kid("c", dir(o.Kids[1].Node.Kids[0], o.Kids[1].Node.Kids[2])))},
		{"an empty name", o, "c =", at(o, 1, kid("c", dir(o.Kids[1].Node.Kids[1:]...)))},
		{"of no kind", o, "v", at(o, 5)},
	} {
		if got, err := tree.Cut(c.n, l(c.names)); err != nil || !same(got, c.want) {
			t.Errorf("%s: Cut(%q): %v, %v", c.name, c.names, got, err)
		}
	}
}

func TestT2CutErrors(t *testing.T) {
	for _, x := range []struct {
		name  string
		n     api.Node
		names string
		want  error
	}{
		{"no names", sample(), "", api.ErrKind},
		{"no names, of a file", file(""), "", api.ErrKind},
		{"of a file", file(""), "a", api.ErrKind},
		{"of a White", white(), "a b", api.ErrKind},
		{"of no kind", api.Node{}, "a", api.ErrKind},
		{"through a file", sample(), "b x", api.ErrKind},
		{"through a file, more names", sample(), "b x y", api.ErrKind},
		{"through a White", sample(), "d q x", api.ErrKind},
		{"through nothing", sample(), "a x", api.ErrNone},
		{"through nothing within", sample(), "d x y", api.ErrNone},
		{"nothing at the end", sample(), "a", api.ErrNone},
		{"nothing at the end, within", sample(), "d r x", api.ErrNone},
		{"nothing at the end, no kids", dir(), "a", api.ErrNone},
		{"a name that is none", sample(), "A", api.ErrNone},
		{"an empty name", sample(), "=", api.ErrNone},
		{"behind the end", chain(2, file("")), "a a a", api.ErrKind},
		{"through the first of two, a file", odd(), "m x", api.ErrKind},
		{"the first of two has it not", odd(), "c y", api.ErrNone},
		{"kids of a file", odd(), "f x", api.ErrKind},
		{"kids of a White", odd(), "w x", api.ErrKind},
		{"kids of no kind", odd(), "v x", api.ErrKind},
	} {
		if got, err := tree.Cut(x.n, l(x.names)); err != x.want || !zero(got) {
			t.Errorf("%s: Cut(%q): %v, %v, not %v", x.name, x.names, got, err, x.want)
		}
	}
}

// shallow: till the test ends, calls that go as deep as a node would break off.
func shallow(t *testing.T) {
	old := debug.SetMaxStack(1 << 20)
	t.Cleanup(func() { debug.SetMaxStack(old) })
}

// depth of a chain, and the node at its end.
func depth(n api.Node) (int, api.Node) {
	for i := 0; ; i++ {
		if len(n.Kids) == 0 {
			return i, n
		}
		n = n.Kids[0].Node
	}
}

func TestZ1VeryDeep(t *testing.T) {
	const deep = 100000
	shallow(t)
	n := chain(deep, dir())
	names := slices.Repeat([]string{"a"}, deep)
	if got, _ := depth(tree.Own(n)); got != deep {
		t.Errorf("Own: %d names", got)
	}
	if got, is := tree.Find(n, names[:deep-5]); !is || !same(got, chain(5, dir())) {
		t.Errorf("Find: %v", is)
	}
	put, err := tree.Put(n, append(slices.Clip(names), "b"), file("end"))
	if got, end := depth(put); err != nil || got != deep+1 || !same(end, file("end")) {
		t.Errorf("Put: %d names, %v, %v", got, end, err)
	}
	cut, err := tree.Cut(n, names)
	if got, _ := depth(cut); err != nil || got != deep-1 {
		t.Errorf("Cut: %d names, %v", got, err)
	}
	if s, err := tree.Bytes(n); s != "" || err != api.ErrMany || tree.Size(n) != 0 {
		t.Errorf("Bytes: %q, %v; Size: %d", s, err, tree.Size(n))
	}
}
