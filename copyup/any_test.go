package copyup_test

import (
	"runtime/debug"
	"slices"
	"testing"

	"idshift/api"
	"idshift/copyup"
)

// shallow: calls within calls, as many as a deep node has names, would have no room.
func shallow(t *testing.T) {
	old := debug.SetMaxStack(1 << 20)
	t.Cleanup(func() { debug.SetMaxStack(old) })
}

// chain of so many names, and a node at its end; all of these ids.
func chain(long, id int, end api.Node) api.Node {
	for range long {
		end = api.Node{Kind: api.Dir, User: id, Group: id, Kids: []api.Kid{{Name: "a", Node: end}}}
	}
	return end
}

// depth of the first kids, and the node at their end.
func depth(n api.Node) (int, api.Node) {
	long := 0
	for len(n.Kids) > 0 {
		n = n.Kids[0].Node
		long++
	}
	return long, n
}

// Long names, and very deep nodes, come up soon enough.
func TestZ1Deep(t *testing.T) {
	shallow(t)
	const long = 200000
	l := []api.Node{chain(long/4, 1001, node("d:1001.1001")), chain(long/2, 1, node("d")), chain(long, 2, node("fx:2.2"))}
	way := slices.Repeat([]string{"a"}, long)
	got, err := copyup.Up(l, maps(), way)
	if deep, end := depth(got); err != nil || deep != long || tell(end) != "fx:1002.1002" {
		t.Errorf("Up: %v, %d deep, %s", err, deep, tell(end))
	}
	if got, err = copyup.Up(l, maps(), append(way, "a")); err != api.ErrNone || !zero(got) {
		t.Errorf("Up where nothing is seen: %v", err)
	}
	for _, f := range []func(m api.Maps, n api.Node) (api.Node, error){copyup.Inside, copyup.Outside} {
		m := api.Maps{Users: []api.Range{{In: 2, Out: 2, Count: 1}}, Groups: []api.Range{{In: 2, Out: 2, Count: 1}}}
		got, err := f(m, l[2])
		if deep, end := depth(got); err != nil || deep != long || tell(end) != "fx:2.2" {
			t.Errorf("%v, %d deep", err, deep)
		}
	}
	if got := copyup.Seen(maps(), l[2], false); got != (api.Thing{Dir: true, User: 2, Group: 2, Mapped: true}) {
		t.Errorf("Seen: %v", got)
	}
}

// Nodes that the tree's Check would refuse come up as others do.
func TestZ1AnyNodes(t *testing.T) {
	odd := api.Node{Kind: api.Dir, Mode: -1, User: 3, Group: 4, Opaque: true, Data: "of a Dir", Attrs: []api.Attr{{}, {Name: "x"}, {Name: "x"}}}
	low := api.Node{Kind: api.Dir, Kids: []api.Kid{kid("b", odd), kid("a", odd), kid("b", api.Node{}), kid("c", api.Node{Kind: -1})}}
	top := api.Node{Kind: api.Dir, Mode: 1 << 40, User: -1, Opaque: false, Data: "too", Kids: []api.Kid{kid("z", odd), kid("A/ b", api.Node{Kind: 1 << 40})}}
	want := top
	moved := odd
	moved.User, moved.Group, moved.Opaque = 1003, 1004, false
	want.Kids = append([]api.Kid{kid("b", moved)}, top.Kids...)
	if got, err := copyup.Up([]api.Node{top, low}, maps(), names("b")); err != nil || !same(got, want) {
		t.Errorf("Up: %v, %v, not %v", got, err, want)
	}
	if got, err := copyup.Up([]api.Node{top, low}, maps(), names("c")); err != api.ErrNone || !zero(got) {
		t.Errorf("Up of a Kind that is none: %v, %v", got, err)
	}
	moved.Opaque = true
	if got, err := copyup.Outside(maps(), odd); err != nil || !same(got, moved) {
		t.Errorf("Outside: %v, %v", got, err)
	}
	if got, err := copyup.Inside(maps(), moved); err != nil || !same(got, odd) {
		t.Errorf("Inside: %v, %v", got, err)
	}
	for _, n := range []api.Node{{}, {Kind: -1}, {Kind: api.White}, {Kind: 1 << 40}} {
		if got, err := copyup.Up([]api.Node{n, low}, maps(), names("b")); err != api.ErrNone || !zero(got) {
			t.Errorf("Up below %v: %v, %v", n, got, err)
		}
	}
}
