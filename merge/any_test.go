package merge_test

import (
	"runtime/debug"
	"slices"
	"strconv"
	"testing"

	"idshift/api"
	"idshift/merge"
)

// shallow: calls within calls, as many as a deep node has names, would have no room.
func shallow(t *testing.T) {
	old := debug.SetMaxStack(1 << 20)
	t.Cleanup(func() { debug.SetMaxStack(old) })
}

// chain of so many names, and a node at its end.
func chain(long int, end api.Node) api.Node {
	for range long {
		end = api.Node{Kind: api.Dir, Kids: []api.Kid{{Name: "a", Node: end}}}
	}
	return end
}

// depth of the first kids, and the node at their end.
func depth(n api.Node) (int, api.Node) {
	long := 0
	for len(n.Kids) > 0 {
		n = n.Kids[0].Node
		long++
	}
	return long, n
}

func TestZ1Deep(t *testing.T) {
	shallow(t)
	const long = 200000
	l := []api.Node{chain(long/4, node("d")), chain(long/2, node("D")), chain(long, node("fx"))}
	way := slices.Repeat([]string{"a"}, long)
	if n, layer, is := merge.Look(l, way[:long/2]); !is || layer != 1 || tell(n) != "D" {
		t.Errorf("Look half of the way: %d, %v", layer, is)
	}
	for _, f := range []func(n api.Node, layer int) api.Node{nil, func(n api.Node, layer int) api.Node { return n }} {
		if n, is := merge.Flat(l, f); !is {
			t.Error("Flat finds nothing")
		} else if got, _ := depth(n); got != long/2 {
			t.Errorf("Flat is %d deep", got)
		}
	}
	l = slices.Delete(l, 1, 2)
	if n, layer, is := merge.Look(l, way); !is || layer != 1 || tell(n) != "fx" {
		t.Errorf("Look: %d, %v", layer, is)
	}
	if nodes, from := merge.Along(l, way); len(nodes) != long+1 || from[long/4] != 0 || from[long/4+1] != 1 || tell(nodes[long]) != "fx" {
		t.Errorf("Along: %d", len(nodes))
	}
	if n, layer, is := merge.Look(l, nil); !is || layer != 0 || len(n.Kids) != 1 {
		t.Errorf("Look at '/': %d, %v", layer, is)
	}
	if !merge.Below(l, way) || merge.Below(l, append(way, "a")) {
		t.Error("Below")
	}
	if got := merge.List(l, way[1:]); !slices.Equal(got, []string{"a"}) {
		t.Errorf("List: %v", got)
	}
	n, _ := merge.Flat(l, nil)
	if got, end := depth(n); got != long || tell(end) != "fx" {
		t.Errorf("Flat is %d deep", got)
	}
	n, _ = merge.Flat(layers("d"), func(n api.Node, layer int) api.Node { return l[1] })
	if got, _ := depth(n); got != long {
		t.Errorf("what f made is %d deep", got)
	}
}

// Where there are many kids all ends soon enough.
func TestZ1Wide(t *testing.T) {
	const many = 100000
	var up, low []api.Kid
	for i := range many {
		up = append(up, kid("k"+strconv.Itoa(3*many-2*i), node("fu")))
		low = append(low, kid("k"+strconv.Itoa(2*many+i), node("fl")))
	}
	l := []api.Node{{Kind: api.Dir, Kids: up}, {Kind: api.Dir, Kids: low}}
	list := merge.List(l, nil)
	n, _ := merge.Flat(l, nil)
	if len(list) != many+many/2 || !slices.IsSorted(list) || len(n.Kids) != len(list) {
		t.Errorf("%d names, %d kids", len(list), len(n.Kids))
	}
}

// Many layers, of which the last one has what is looked for.
func TestZ1ManyLayers(t *testing.T) {
	const many = 100000
	l := slices.Repeat(layers("d(a=d)"), many)
	l[many-1] = node("d(a=d(b=fx))")
	if n, layer, is := merge.Look(l, names("a b")); !is || layer != many-1 || tell(n) != "fx" {
		t.Errorf("Look: %v, %d, %v", n, layer, is)
	}
	if got := merge.List(l, names("a")); !slices.Equal(got, []string{"b"}) || !merge.Below(l, names("a b")) {
		t.Errorf("List: %v", got)
	}
	if n, _ := merge.Flat(l, nil); tell(n) != "d(a=d(b=fx))" {
		t.Error(tell(n))
	}
}

// Nodes that the tree's Check would refuse are layers as others are.
func TestZ1AnyNodes(t *testing.T) {
	odd := api.Node{Kind: api.Dir, Mode: -1, User: 1 << 40, Group: -1 << 62, Opaque: true, Data: "of a Dir", Attrs: []api.Attr{{}, {Name: "x"}, {Name: "x"}}}
	zeroed := odd
	zeroed.Opaque = false
	l := []api.Node{{Kind: api.Dir, Kids: []api.Kid{kid("A/ b", odd), kid("A/ b", node("w")), kid("", api.Node{}), kid("\xff", api.Node{Kind: -1})}}, node("d(=fx)")}
	if n, layer, is := merge.Look(l, []string{"A/ b"}); !is || layer != 0 || !same(n, odd) {
		t.Errorf("Look: %v, %d, %v", n, layer, is)
	}
	if got := merge.List(l, nil); !slices.Equal(got, []string{"A/ b"}) {
		t.Errorf("List: %q", got)
	}
	if n, is := merge.Flat(l, nil); !is || len(n.Kids) != 1 || !same(n.Kids[0].Node, zeroed) {
		t.Errorf("Flat: %v, %v", n, is)
	}
	if !merge.Below(l, []string{""}) || merge.Below(l, []string{"\xff"}) {
		t.Error("Below")
	}
	for _, n := range []api.Node{{}, {Kind: -1}, {Kind: 4}, {Kind: 1 << 40}} {
		if _, is := merge.Flat([]api.Node{n, node("d")}, nil); is {
			t.Errorf("something is seen of %v", n)
		}
	}
}
