package tree_test

import (
	"testing"

	"idshift/api"
	"idshift/tree"
)

// checked: a node, and what Check says of it in no upper and in an upper.
type checked struct {
	name         string
	n            api.Node
	lower, upper error
}

func checkAll(t *testing.T, l []checked) {
	t.Helper()
	for _, x := range l {
		if err := tree.Check(x.n, false); err != x.lower {
			t.Errorf("%s: in no upper: %v, not %v", x.name, err, x.lower)
		}
		if err := tree.Check(x.n, true); err != x.upper {
			t.Errorf("%s: in an upper: %v, not %v", x.name, err, x.upper)
		}
	}
}

func TestT1Right(t *testing.T) {
	upper := api.ErrShape // what may be in an upper alone
	checkAll(t, []checked{
		{"the least", api.Node{Kind: api.Dir}, nil, nil},
		{"lists that are empty", api.Node{Kind: api.Dir, Attrs: []api.Attr{}, Kids: []api.Kid{}}, nil, nil},
		{"a file", dir(kid("f", file("hi"))), nil, nil},
		{"a file with empty lists", dir(kid("f", api.Node{Kind: api.File, Attrs: []api.Attr{}, Kids: []api.Kid{}})), nil, nil},
		{"a White", dir(kid("w", white())), upper, nil},
		{"a White with empty lists", dir(kid("w", api.Node{Kind: api.White, Attrs: []api.Attr{}, Kids: []api.Kid{}})), upper, nil},
		{"a White far within", chain(5, dir(kid("w", white()))), upper, nil},
		{"an Opaque kid", dir(kid("o", closed())), upper, nil},
		{"an Opaque kid of an Opaque kid", dir(kid("o", closed(kid("o", closed(kid("f", file(""))))))), upper, nil},
		{"all there is", sample(), upper, nil},
		{"kids of the same names in other places", dir(kid("a", dir(kid("a", file("")), kid("b", file("")))), kid("b", dir(kid("a", file(""))))), nil, nil},
		{"a kid's kids below its own name", dir(kid("z", dir(kid("a", file("")))), kid("zz", file(""))), nil, nil},
	})
}

func TestT1NoDir(t *testing.T) {
	for _, kind := range []int{api.File, api.White, 0, 4, -1, 10, 1 << 40} {
		for _, n := range []api.Node{
			{},
			{Mode: -1, User: -1, Group: -1},
			{Attrs: attrs("x")},
			{Data: long(api.MaxData + 1)},
			{Opaque: true},
			{Kids: []api.Kid{kid("A", file("")), kid("", file(""))}},
			{Kids: numbered(api.MaxNodes, file(""))},
		} {
			n.Kind = kind
			checkAll(t, []checked{{"no directory", n, api.ErrKind, api.ErrKind}})
		}
	}
}

func TestT1HowMany(t *testing.T) {
	const most = api.MaxNodes
	bad := with(file(""), func(n *api.Node) { n.Kind = 0 })
	behind := func(n int, last ...api.Kid) api.Node { return dir(append(numbered(n, file("")), last...)...) }
	both := func(name string, n api.Node, err error) checked { return checked{name, n, err, err} }
	checkAll(t, []checked{
		both("as many as may be", behind(most-1), nil),
		both("one more", behind(most), api.ErrMany),
		both("far more", behind(800), api.ErrMany),
		both("as many as may be, in directories", dir(kid("a", behind(28)), kid("b", behind(28)), kid("c", file(""))), nil),
		both("one more, in directories", dir(kid("a", behind(28)), kid("b", behind(28)), kid("c", file("")), kid("d", file(""))), api.ErrMany),
		both("one more, in the last directory", dir(kid("a", behind(28)), kid("b", behind(30))), api.ErrMany),
		both("a directory is counted", dir(kid("a", dir()), kid("b", behind(most-3))), nil),
		both("a directory is counted, one more", dir(kid("a", dir()), kid("b", behind(most-2))), api.ErrMany),
		both("one more, whose name is none", behind(most-1, kid("Z", file(""))), api.ErrName),
		both("one more, whose name falls", behind(most-1, kid("a", file(""))), api.ErrShape),
		both("one more, of no kind", behind(most-1, kid("z", bad)), api.ErrMany),
		both("the last, of no kind", behind(most-2, kid("z", bad)), api.ErrShape),
		both("one more, behind one of no kind", behind(most-2, kid("y", bad), kid("z", file(""))), api.ErrShape),
		both("one more, ahead of one of no kind", behind(most-1, kid("y", file("")), kid("z", bad)), api.ErrMany),
		{"Whites are counted", dir(numbered(most-1, white())...), api.ErrShape, nil},
		{"Whites are counted, one more", dir(numbered(most, white())...), api.ErrShape, api.ErrMany},
	})
}

func TestT1HowDeep(t *testing.T) {
	const most = api.MaxDepth
	both := func(name string, n api.Node, err error) checked { return checked{name, n, err, err} }
	endless := dir(kid("a", dir()))
	endless.Kids[0].Node.Kids = endless.Kids
	checkAll(t, []checked{
		both("a directory as deep as may be", chain(most, dir()), nil),
		both("a file as deep as may be", chain(most, file("x")), nil),
		both("a directory one deeper", chain(most+1, dir()), api.ErrMany),
		both("a file one deeper", chain(most+1, file("x")), api.ErrMany),
		both("far deeper", chain(100000, dir()), api.ErrMany),
		both("without an end", endless, api.ErrMany),
		both("one deeper, of no kind", chain(most+1, api.Node{Mode: -1}), api.ErrMany),
		both("as deep as may be, of no kind", chain(most, api.Node{}), api.ErrShape),
		both("one deeper, with a name that is none", chain(most, dir(kid("A", file("")))), api.ErrName),
		both("one deeper, with the same name", chain(most-1, dir(kid("a", dir()), kid("a", file("")))), api.ErrShape),
		both("deep behind what is deep", dir(kid("a", chain(5, dir())), kid("b", chain(5, dir()))), nil),
		both("one deeper behind what is not", dir(kid("a", chain(5, dir())), kid("b", chain(6, dir()))), api.ErrMany),
		both("a fault ahead of one deeper", dir(kid("a", file(long(201))), kid("b", chain(6, dir()))), api.ErrBound),
		both("a fault behind one deeper", dir(kid("a", chain(6, dir())), kid("b", file(long(201)))), api.ErrMany),
	})
}

func TestT1Kinds(t *testing.T) {
	for _, kind := range []int{0, 4, -1, -2, 8, 9, 10, 11, 256 + api.File, 1 << 40, -1 << 63} {
		n := api.Node{Kind: kind}
		checkAll(t, []checked{{"a kid of no kind", dir(kid("a", n)), api.ErrShape, api.ErrShape}})
	}
}

// Mode, User and Group: below 0, at their ends, one above; of the tree itself, of a directory and of a file within.
func TestT1Bounds(t *testing.T) {
	const least, greatest = -1 << 63, 1<<63 - 1
	for _, x := range []struct {
		name  string
		value []int
		set   func(n *api.Node, v int)
		most  int
	}{
		{"Mode", []int{least, -1, 0, 1, 4094, 4095, 4096, greatest}, func(n *api.Node, v int) { n.Mode = v }, api.MaxMode},
		{"User", []int{least, -1, 0, 1, 65534, 65535, 65536, greatest}, func(n *api.Node, v int) { n.User = v }, api.MaxID},
		{"Group", []int{least, -1, 0, 1, 65534, 65535, 65536, greatest}, func(n *api.Node, v int) { n.Group = v }, api.MaxID},
	} {
		for _, v := range x.value {
			var want error
			if v < 0 || v > x.most {
				want = api.ErrBound
			}
			set := func(n *api.Node) { x.set(n, v) }
			checkAll(t, []checked{
				{x.name + " of the tree", with(dir(), set), want, want},
				{x.name + " of a directory", dir(kid("a", with(dir(), set))), want, want},
				{x.name + " of a file", dir(kid("a", with(file(""), set))), want, want},
			})
		}
	}
}

func TestT1Attrs(t *testing.T) {
	value := func(n int) []api.Attr { return []api.Attr{{Name: "u.a", Value: long(n)}} }
	for _, x := range []struct {
		l    []api.Attr
		want error
	}{
		{attrs("t.a", "t.b", "u.a", "u.b"), nil},
		{value(api.MaxValue), nil},
		{attrs("t.a", "t.b", "u.a", "u.b", "u.c"), api.ErrMany},
		{attrs("x"), api.ErrName},
		{value(api.MaxValue + 1), api.ErrBound},
		{attrs("u.a", "t.a"), api.ErrShape},
		{attrs("u.a", "u.a"), api.ErrShape},
	} {
		set := func(n *api.Node) { n.Attrs = x.l }
		checkAll(t, []checked{
			{"of the tree", with(dir(), set), x.want, x.want},
			{"of a directory", dir(kid("a", with(dir(), set))), x.want, x.want},
			{"of a file", dir(kid("a", with(file(""), set))), x.want, x.want},
		})
	}
}

func TestT1Data(t *testing.T) {
	holds := func(n api.Node, bytes int) api.Node { n.Data = long(bytes); return n }
	both := func(name string, n api.Node, err error) checked { return checked{name, n, err, err} }
	checkAll(t, []checked{
		both("as much as may be", dir(kid("a", file(long(api.MaxData)))), nil),
		both("one byte more", dir(kid("a", file(long(api.MaxData+1)))), api.ErrBound),
		both("far more", dir(kid("a", file(long(100000)))), api.ErrBound),
		both("any bytes", dir(kid("a", file("\x00\xff\n/ é"))), nil),
		both("of the tree", holds(dir(), 1), api.ErrShape),
		both("of the tree, as much as may be", holds(dir(), api.MaxData), api.ErrShape),
		both("of the tree, more", holds(dir(), api.MaxData+1), api.ErrBound),
		both("of a directory", dir(kid("a", holds(dir(), 1))), api.ErrShape),
		both("of a directory, more", dir(kid("a", holds(dir(), api.MaxData+1))), api.ErrBound),
		both("of a White", dir(kid("a", holds(white(), 1))), api.ErrShape),
		both("of a White, more", dir(kid("a", holds(white(), api.MaxData+1))), api.ErrBound),
	})
}

func TestT1Whites(t *testing.T) {
	of := func(alter func(n *api.Node)) api.Node { return dir(kid("w", with(white(), alter))) }
	both := func(name string, n api.Node, err error) checked { return checked{name, n, err, err} }
	checkAll(t, []checked{
		{"nothing", of(func(n *api.Node) {}), api.ErrShape, nil},
		both("a Mode", of(func(n *api.Node) { n.Mode = 1 }), api.ErrShape),
		both("the greatest Mode", of(func(n *api.Node) { n.Mode = api.MaxMode }), api.ErrShape),
		both("a User", of(func(n *api.Node) { n.User = 1 }), api.ErrShape),
		both("a Group", of(func(n *api.Node) { n.Group = 1 }), api.ErrShape),
		both("an attribute", of(func(n *api.Node) { n.Attrs = attrs("u.a") }), api.ErrShape),
		both("Data", of(func(n *api.Node) { n.Data = "x" }), api.ErrShape),
		both("a kid", of(func(n *api.Node) { n.Kids = numbered(1, file("")) }), api.ErrShape),
		both("Opaque", of(func(n *api.Node) { n.Opaque = true }), api.ErrShape),
		both("a Mode out of bounds", of(func(n *api.Node) { n.Mode = -1 }), api.ErrBound),
		both("a User out of bounds", of(func(n *api.Node) { n.User = api.MaxID + 1 }), api.ErrBound),
		both("attributes that are wrong", of(func(n *api.Node) { n.Attrs = attrs("x") }), api.ErrName),
		both("a kid that is wrong", of(func(n *api.Node) { n.Kids = numbered(1, file(long(201))) }), api.ErrShape),
	})
}

func TestT1Opaque(t *testing.T) {
	shut := func(n *api.Node) { n.Opaque = true }
	both := func(name string, n api.Node, err error) checked { return checked{name, n, err, err} }
	checkAll(t, []checked{
		both("of the tree", closed(), api.ErrShape),
		both("of the tree, that has kids", closed(kid("a", file(""))), api.ErrShape),
		both("of a file", dir(kid("a", with(file(""), shut))), api.ErrShape),
		both("of a White", dir(kid("a", with(white(), shut))), api.ErrShape),
		{"of a kid", dir(kid("a", closed())), api.ErrShape, nil},
		{"of a kid's kid", dir(kid("a", dir(kid("b", closed())))), api.ErrShape, nil},
	})
}

func TestT1KidsOfAFile(t *testing.T) {
	for _, l := range [][]api.Kid{numbered(1, file("")), {kid("A", file(""))}, {kid("b", dir()), kid("a", api.Node{})}, numbered(100, white())} {
		n := with(file(""), func(n *api.Node) { n.Kids = l })
		checkAll(t, []checked{{"kids of a file", dir(kid("a", n)), api.ErrShape, api.ErrShape}})
	}
}

func TestT1Names(t *testing.T) {
	const most = api.MaxName
	for _, x := range []struct {
		names []string
		want  error
	}{
		{[]string{"a"}, nil},
		{[]string{long(most)}, nil},
		{[]string{"-", ".a", "0", "_", "a", "a-", "a.", "aa", "b"}, nil},
		{[]string{"a", "aa"}, nil},
		{[]string{long(most - 1), long(most)}, nil},
		{[]string{"10", "9"}, nil},
		{[]string{""}, api.ErrName},
		{[]string{"."}, api.ErrName},
		{[]string{".."}, api.ErrName},
		{[]string{"A"}, api.ErrName},
		{[]string{"a/b"}, api.ErrName},
		{[]string{long(most + 1)}, api.ErrName},
		{[]string{"a", "b", "C"}, api.ErrName},
		{[]string{"a", "a"}, api.ErrShape},
		{[]string{"b", "a"}, api.ErrShape},
		{[]string{"aa", "a"}, api.ErrShape},
		{[]string{"9", "10"}, api.ErrShape},
		{[]string{"a", "c", "b"}, api.ErrShape},
		{[]string{"a", "b", "a"}, api.ErrShape},
		{[]string{"a", "_"}, api.ErrShape},
		{[]string{"b", "A"}, api.ErrName},
		{[]string{"b", ""}, api.ErrName},
		{[]string{"b", "a", "A"}, api.ErrShape},
		{[]string{"A", "b", "a"}, api.ErrName},
	} {
		var kids []api.Kid
		for _, name := range x.names {
			kids = append(kids, kid(name, file("")))
		}
		n := dir(kids...)
		checkAll(t, []checked{
			{"names of the tree's kids", n, x.want, x.want},
			{"names of a kid's kids", dir(kid("z", n)), x.want, x.want},
		})
	}
}

// faults of one node, in the order in which they are told.
func faults() []func(n *api.Node) error {
	return []func(n *api.Node) error{
		func(n *api.Node) error { n.Kind = 4; return api.ErrShape },
		func(n *api.Node) error { n.Group = api.MaxID + 1; return api.ErrBound },
		func(n *api.Node) error { n.Attrs = attrs("x"); return api.ErrName },
		func(n *api.Node) error { n.Data = long(api.MaxData + 1); return api.ErrBound },
		func(n *api.Node) error { n.Opaque = true; return api.ErrShape },
		func(n *api.Node) error { n.Kids = []api.Kid{kid("", file(""))}; return api.ErrName },
	}
}

// Of two faults of a node the one that is named first is told, and a fault of the node ahead of both.
func TestZ3FaultsOfANode(t *testing.T) {
	for i, first := range faults() {
		for _, second := range faults()[i+1:] {
			n := dir()
			second(&n)
			want := first(&n)
			checkAll(t, []checked{
				{"a kid", dir(kid("a", n)), want, inUpper(n, want)},
				{"a kid behind another", dir(kid("a", file("")), kid("b", n)), want, inUpper(n, want)},
				{"behind MaxNodes", dir(append(numbered(api.MaxNodes-1, file("")), kid("z", n))...), api.ErrMany, api.ErrMany},
				{"below MaxDepth", chain(api.MaxDepth+1, n), api.ErrMany, api.ErrMany},
				{"its name is none", dir(kid("A", n)), api.ErrName, api.ErrName},
				{"its name falls", dir(kid("b", file("")), kid("a", n)), api.ErrShape, api.ErrShape},
				{"behind a fault", dir(kid("a", file(long(201))), kid("b", n)), api.ErrBound, api.ErrBound},
			})
		}
	}
}

// inUpper: a directory that is Opaque is at fault in no upper alone; in an upper the fault behind that one is told.
func inUpper(n api.Node, want error) error {
	if n.Kind == api.Dir && n.Opaque && want == api.ErrShape {
		return api.ErrName
	}
	return want
}

// Each node comes ahead of its kids, and each kid with all that it has ahead of the name of the next one.
func TestZ3FaultsOfSeveral(t *testing.T) {
	big := file(long(api.MaxData + 1))
	both := func(name string, n api.Node, err error) checked { return checked{name, n, err, err} }
	checkAll(t, []checked{
		both("a node ahead of its kids", with(dir(kid("A", big)), func(n *api.Node) { n.Data = "x" }), api.ErrShape),
		both("a name ahead of its node", dir(kid("A", big)), api.ErrName),
		both("a name that falls ahead of its node", dir(kid("b", file("")), kid("a", big)), api.ErrShape),
		both("a node ahead of the next one's name", dir(kid("a", big), kid("A", file(""))), api.ErrBound),
		both("a kid's kid ahead of the next one's name", dir(kid("a", dir(kid("b", big))), kid("A", file(""))), api.ErrBound),
		both("a kid's kid's name ahead of the next one", dir(kid("a", dir(kid("A", file("")))), kid("b", big)), api.ErrName),
		both("names of the first kid's kids ahead of those of kids", dir(kid("b", dir(kid("A", file("")))), kid("a", file(""))), api.ErrName),
		both("kid by kid", dir(kid("a", file("")), kid("b", dir(kid("b", file("")), kid("a", file("")))), kid("c", big)), api.ErrShape),
	})
}
