package host_test

import (
	"slices"
	"strings"
	"testing"

	"idshift/api"
	"idshift/host"
	"idshift/quota"
	"idshift/tree"
)

// greatest: no lower has more bytes.
func greatest() api.Node {
	attrs := func() []api.Attr {
		var l []api.Attr
		for _, s := range []string{"t.aaaaaaaaaaaa", "t.bbbbbbbbbbbb", "u.aaaaaaaaaaaa", "u.bbbbbbbbbbbb"} {
			l = append(l, api.Attr{Name: s, Value: strings.Repeat("v", api.MaxValue)})
		}
		return l
	}
	n := dir()
	n.Attrs = attrs()
	for i := range api.MaxNodes - 1 {
		x := file(strings.Repeat(string(rune('a'+i%26)), api.MaxData))
		x.Attrs, x.Mode, x.User, x.Group = attrs(), api.MaxMode, api.MaxID, api.MaxID-i
		n.Kids = append(n.Kids, api.Kid{Name: "name-of-it" + string(rune('a'+i/26)) + string(rune('a'+i%26)), Node: x})
	}
	return n
}

// sameNode: are both the same? (An empty list may be nil or not.)
func sameNode(a, b api.Node) bool {
	return a.Kind == b.Kind && a.Mode == b.Mode && a.User == b.User && a.Group == b.Group && a.Opaque == b.Opaque && a.Data == b.Data &&
		slices.Equal(a.Attrs, b.Attrs) &&
		slices.EqualFunc(a.Kids, b.Kids, func(x, y api.Kid) bool { return x.Name == y.Name && sameNode(x.Node, y.Node) })
}

// hasLower: is it there, and behind Open too?
func hasLower(t *testing.T, h *host.Host, id int, want api.Node) {
	t.Helper()
	if n, err := h.Lower(id); err != nil || !sameNode(n, want) {
		t.Errorf("lower %d: %v, %v, not %v", id, n, err, want)
	}
}

func TestH2AddLower(t *testing.T) {
	d, h := start(t, 400)
	odd := dir("a", dir("b", dir("c", dir("d", dir("e", dir("f", file("deep")))))), "zzzzzzzzzzzz", file(strings.Repeat("\x00\xff", 100)))
	odd.Mode, odd.User, odd.Group, odd.Attrs = 4095, 65535, 65534, []api.Attr{{Name: "t.a", Value: ""}, {Name: "u.a", Value: "\x00"}}
	all := []api.Node{dir(), odd, sized(t, 64), sized(t, 65), greatest()}
	left := 400
	for id, n := range all {
		addLower(t, h, n, id)
		left -= (tree.Size(n) + 63) / 64
		for _, x := range []*host.Host{h, peek(t, d)} {
			stands(t, "a lower more", x, []int{0, 1, 2, 3, 4}[:id+1], nil, left)
			for i := range id + 1 {
				hasLower(t, x, i, all[i])
			}
		}
	}
}

// What a lower takes is how many blocks its bytes take.
func TestH2Takes(t *testing.T) {
	for bytes, blocks := range map[int]int{10: 1, 23: 1, 63: 1, 64: 1, 65: 2, 127: 2, 128: 2, 129: 3, 640: 10, 641: 11, 5000: 79} {
		d, h := start(t, 100)
		addLower(t, h, sized(t, bytes), 0)
		stands(t, "taken", h, []int{0}, nil, 100-blocks)
		stands(t, "taken, and opened", peek(t, d), []int{0}, nil, 100-blocks)
		done(t, h.DropLower(0))
		stands(t, "given back", h, nil, nil, 100)
		stands(t, "given back, and opened", peek(t, d), nil, nil, 100)
	}
}

// A lower that takes just what is left is added, one of a block more is not, and then nothing has changed.
func TestH2NoRoom(t *testing.T) {
	for _, room := range []int{0, 1, 2, 5, 30, 70} {
		for _, ahead := range []int{0, 1, 4} {
			if ahead > room {
				continue
			}
			d, h := start(t, room)
			if ahead > 0 {
				addLower(t, h, whole(t, ahead), 0)
			}
			left := room - ahead
			before := seen(h)
			unchanged(t, "no room", d, func() {
				if id, err := h.AddLower(sized(t, max(left*64+1, 10))); err != api.ErrNoRoom || id != 0 {
					t.Errorf("room %d, %d left: %d, %v", room, left, id, err)
				}
			})
			if got := seen(h); got != before {
				t.Errorf("it is %s, not %s", got, before)
			}
			if left > 0 {
				addLower(t, h, whole(t, left), min(ahead, 1))
				if h.Left() != 0 || peek(t, d).Left() != 0 {
					t.Errorf("%d left", h.Left())
				}
				if _, err := h.AddLower(dir()); err != api.ErrNoRoom {
					t.Errorf("room %d, none left: %v", room, err)
				}
			}
		}
	}
	_, h := start(t, 340)
	if id, err := h.AddLower(greatest()); err != api.ErrNoRoom || id != 0 || quota.Blocks(greatest()) != 341 {
		t.Errorf("%d, %v", id, err)
	}
}

// The lowest free number is taken, behind drops too.
func TestH2LowestNumber(t *testing.T) {
	for _, x := range []struct{ drop, then []int }{
		{nil, nil}, {[]int{0}, []int{0}}, {[]int{4}, []int{4}}, {[]int{2}, []int{2}}, {[]int{3, 1}, []int{1, 3}}, {[]int{4, 0, 2}, []int{0, 2, 4}}, {[]int{0, 1, 2, 3, 4}, []int{0, 1, 2, 3, 4}},
	} {
		d, h := start(t, 40)
		for id := range 5 {
			addLower(t, h, dir("a", file(strings.Repeat("o", id))), id)
		}
		for _, id := range x.drop {
			done(t, h.DropLower(id))
		}
		for i, id := range x.then {
			if i%2 == 1 {
				h = open(t, d)
			}
			addLower(t, h, dir("n", file(strings.Repeat("n", id))), id)
		}
		for _, h := range []*host.Host{h, peek(t, d)} {
			stands(t, "all again", h, []int{0, 1, 2, 3, 4}, nil, 35)
			for id := range 5 {
				want := dir("a", file(strings.Repeat("o", id)))
				if slices.Contains(x.drop, id) {
					want = dir("n", file(strings.Repeat("n", id)))
				}
				hasLower(t, h, id, want)
			}
		}
		if id, err := h.AddLower(dir()); err != api.ErrMany || id != 0 {
			t.Errorf("one more: %d, %v", id, err)
		}
	}
}

// crowd: a directory of so many empty files.
func crowd(n int) api.Node {
	x := dir()
	for i := range n {
		x.Kids = append(x.Kids, api.Kid{Name: string([]byte{'a' + byte(i/26), 'a' + byte(i%26)}), Node: file("")})
	}
	return x
}

// Errors of AddLower, in their order.
func TestH2AddLowerErrors(t *testing.T) {
	white := dir("a", api.Node{Kind: api.White})
	opaque := dir("a", api.Node{Kind: api.Dir, Opaque: true})
	for _, x := range []struct {
		what string
		n    api.Node
		want error
	}{
		{"nothing", api.Node{}, api.ErrKind}, {"a file", file("x"), api.ErrKind}, {"a White", white, api.ErrShape}, {"Opaque", opaque, api.ErrShape},
		{"a name", dir("A", file("")), api.ErrName}, {"a mode", api.Node{Kind: api.Dir, Mode: 4096}, api.ErrBound}, {"many nodes", crowd(60), api.ErrMany},
		{"names that fall", dir("b", file(""), "a", file("")), api.ErrShape}, {"data", dir("a", file(strings.Repeat("x", 201))), api.ErrBound},
	} {
		if err := tree.Check(x.n, false); err != x.want {
			t.Fatalf("%s: %v", x.what, err)
		}
		// A host with room, a full one that has all numbers, a full one.
		d, h := start(t, 30)
		for id := range 5 {
			refusedLower(t, x.what, h, x.n, x.want)
			addLower(t, h, dir(), id)
		}
		refusedLower(t, x.what, h, x.n, x.want)
		refusedLower(t, "all numbers", h, dir(), api.ErrMany)
		refusedLower(t, "all numbers, more than is left", h, whole(t, 31), api.ErrMany)
		stands(t, x.what, peek(t, d), []int{0, 1, 2, 3, 4}, nil, 25)
		_, h = start(t, 0)
		refusedLower(t, x.what, h, x.n, x.want)
		d, h = start(t, 30)
		darken(t, d)
		refusedLower(t, "no power", h, x.n, api.ErrOff)
	}
}

// refusedLower: an error, and nothing has changed.
func refusedLower(t *testing.T, what string, h *host.Host, n api.Node, want error) {
	t.Helper()
	before := seen(h)
	if id, err := h.AddLower(n); err != want || id != 0 {
		t.Errorf("%s: AddLower: %d, %v, not %v", what, id, err, want)
	}
	if got := seen(h); got != before {
		t.Errorf("%s: it is %s, not %s", what, got, before)
	}
}

// A box is sealed as it is seen: lowers through the upper, ids as they are within.
func TestH2Seal(t *testing.T) {
	d, h := start(t, 100)
	low := dir("a", file("low"), "b", dir("c", file("also low")), "d", file("gone"))
	low.User, low.Kids[0].Node.User = 77, 4
	addLower(t, h, low, 0)
	addBox(t, h, config(5, 0), 0)
	put(t, h, 0, "/b/c", "up")
	put(t, h, 0, "/n", "new")
	_, err := h.Do(0, api.Call{Op: api.CallRemove, Path: "/d"})
	done(t, err)
	_, err = h.Do(0, api.Call{Op: api.CallOwn, Path: "/n", A: 9, B: 7})
	done(t, err)
	seal(t, h, 0, 1)
	flat, err := h.Flat(0)
	done(t, err)
	want := dir("a", file("low"), "b", dir("c", file("up")), "n", file("new"))
	want.User, want.Kids[0].Node.User = 0, 4
	want.Kids[2].Node.User, want.Kids[2].Node.Group = 9, 7
	for _, h := range []*host.Host{h, peek(t, d)} {
		if hasLower(t, h, 1, want); !sameNode(flat, want) {
			t.Errorf("flat: %v", flat)
		}
		stands(t, "sealed", h, []int{0, 1}, []int{0}, 100-2-12-quota.Blocks(want))
	}
	// The box goes on over its own lowers; what it does now the lower has not.
	put(t, h, 0, "/n", "newer")
	hasLower(t, h, 1, want)
	addBox(t, h, config(5, 1), 1)
	if got := read(t, h, 1, "/n"); got != "new" {
		t.Errorf("%q", got)
	}
}

// Errors of Seal, in their order.
func TestH2SealErrors(t *testing.T) {
	d, h := start(t, 260)
	half, other := crowd(31), dir("z", crowd(31))
	addLower(t, h, half, 0)
	addLower(t, h, other, 1)
	addBox(t, h, config(1, 0, 1), 0)
	addBox(t, h, config(64), 1)
	for _, id := range append([]int{2, 3, 4}, strays...) {
		if n, err := h.Seal(id); err != api.ErrNone || n != 0 {
			t.Errorf("Seal(%d): %d, %v", id, n, err)
		}
	}
	seals := func(what string, id int, want error) {
		t.Helper()
		before := seen(h)
		if n, err := h.Seal(id); err != want || n != 0 || seen(h) != before {
			t.Errorf("%s: Seal(%d): %d, %v, not %v", what, id, n, err, want)
		}
	}
	// Each lower may be, and so may be the box; but what it sees are more nodes than a tree has.
	seals("many nodes", 0, api.ErrMany)
	addBox(t, h, config(54), 2)
	stands(t, "little room", h, []int{0, 1}, []int{0, 1, 2}, 260-4-130-110-quota.Blocks(half)-quota.Blocks(other))
	if h.Left() >= 4 {
		t.Fatalf("%d left", h.Left())
	}
	for _, name := range []string{"a", "b"} {
		put(t, h, 1, "/"+name, strings.Repeat("x", 200))
	}
	seals("no room", 1, api.ErrNoRoom)
	seals("many nodes, and no room", 0, api.ErrMany)
	done(t, h.DropBox(2))
	for id := 2; id < 5; id++ {
		seal(t, h, 1, id)
	}
	seals("all numbers", 1, api.ErrMany)
	darken(t, d)
	for _, id := range append([]int{0, 1, 2}, strays...) {
		if n, err := h.Seal(id); err != api.ErrOff || n != 0 {
			t.Errorf("no power: Seal(%d): %d, %v", id, n, err)
		}
	}
}

func TestH2DropLower(t *testing.T) {
	d, h := start(t, 100)
	for id := range 4 {
		addLower(t, h, dir("a", file(strings.Repeat("x", id))), id)
	}
	addBox(t, h, config(1, 0), 0)
	addBox(t, h, config(1, 2, 0, 2), 1)
	drops := func(id int, want error) {
		t.Helper()
		before := seen(h)
		if err := h.DropLower(id); err != want {
			t.Errorf("DropLower(%d): %v, not %v", id, err, want)
		}
		if err := peek(t, d).DropLower(id); want != nil && err != want {
			t.Errorf("opened: DropLower(%d): %v, not %v", id, err, want)
		}
		if want != nil && seen(h) != before {
			t.Errorf("DropLower(%d): something has changed", id)
		}
	}
	drops(0, api.ErrHeld)
	drops(2, api.ErrHeld)
	drops(1, nil)
	stands(t, "one is dropped", h, []int{0, 2, 3}, []int{0, 1}, 89)
	drops(1, api.ErrNone)
	for _, id := range append([]int{4}, strays...) {
		drops(id, api.ErrNone)
	}
	done(t, h.DropBox(1))
	drops(0, api.ErrHeld)
	drops(2, nil)
	h = open(t, d)
	drops(0, api.ErrHeld)
	done(t, h.DropBox(0))
	drops(0, nil)
	drops(0, api.ErrNone)
	stands(t, "one is left", h, []int{3}, nil, 99)
	stands(t, "one is left, and opened", peek(t, d), []int{3}, nil, 99)
	hasLower(t, h, 3, dir("a", file("xxx")))
	for _, id := range append([]int{0, 1, 2, 4}, strays...) {
		if n, err := h.Lower(id); err != api.ErrNone || !sameNode(n, api.Node{}) {
			t.Errorf("Lower(%d): %v, %v", id, n, err)
		}
	}
	darken(t, d)
	for _, id := range append([]int{0, 3}, strays...) {
		if err := h.DropLower(id); err != api.ErrOff {
			t.Errorf("no power: DropLower(%d): %v", id, err)
		}
		if n, err := h.Lower(id); err != api.ErrOff || !sameNode(n, api.Node{}) {
			t.Errorf("no power: Lower(%d): %v, %v", id, n, err)
		}
	}
	stands(t, "no power", h, []int{3}, nil, 99)
}
