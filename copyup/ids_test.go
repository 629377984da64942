package copyup_test

import (
	"testing"

	"idshift/api"
	"idshift/copyup"
	"idshift/idmap"
)

// ids of which each side of the maps below is asked.
func ids() []int {
	return []int{-1 << 63, -1, 0, 1, 3, 4, 5, 8, 9, 10, 19, 20, 21, 22, 69, 70, 71, 999, 1000, 1003, 1004, 65533, 65534, 65535, 65536, 1<<63 - 1}
}

// several maps, right ones and others.
func several() []api.Maps {
	a := []api.Range{{In: 0, Out: 1000, Count: 4}, {In: 9, Out: 20, Count: 2}}
	b := []api.Range{{In: 3, Out: 70, Count: 1}, {In: 20, Out: 3, Count: 3}, {In: 65535, Out: 65534, Count: 1}, {In: 65534, Out: 1000, Count: 1}}
	none := []api.Range{{In: 0, Out: 1000, Count: 4}, {In: 3, Out: 5, Count: 1}}
	low := []api.Range{{In: 0, Out: 0, Count: 0}}
	many := []api.Range{{Count: 1}, {In: 1, Out: 1, Count: 1}, {In: 2, Out: 2, Count: 1}, {In: 3, Out: 3, Count: 1}, {In: 4, Out: 4, Count: 1}}
	var l []api.Maps
	all := [][]api.Range{a, b, {{Count: 65536}}, nil, none, low, many}
	for _, users := range all {
		for _, groups := range all {
			l = append(l, api.Maps{Users: users, Groups: groups})
		}
	}
	return l
}

// eachNode: all maps, with nodes of all ids and Kinds.
func eachNode(f func(m api.Maps, n api.Node)) {
	kinds := []int{api.File, api.Dir, api.White, 0, none}
	for _, m := range several() {
		for i, user := range ids() {
			for j, group := range ids() {
				n := full(kinds[(i+j)%len(kinds)], user, group, kid("b", full(api.File, 77, 78)), kid("a", full(api.Dir, 0, 9, kid("c", full(api.White, 1000, 20)))))
				n.Opaque = i%2 == 0
				f(m, n)
			}
		}
	}
}

// Ids come from the maps; all else, the Kids too, stays.
func TestU1InsideAndOutside(t *testing.T) {
	eachNode(func(m api.Maps, n api.Node) {
		for _, x := range []struct {
			name string
			call func(m api.Maps, n api.Node) (api.Node, error)
			id   func(m []api.Range, x int) (int, bool)
		}{
			{"Inside", copyup.Inside, idmap.FromHost},
			{"Outside", copyup.Outside, idmap.ToHost},
		} {
			user, hasUser := x.id(m.Users, n.User)
			group, hasGroup := x.id(m.Groups, n.Group)
			got, err := x.call(m, n)
			if !hasUser || !hasGroup {
				if err != api.ErrUnmapped || !zero(got) {
					t.Fatalf("%s(%v, %v): %v, %v", x.name, m, n, got, err)
				}
				continue
			}
			want := n
			want.User, want.Group = user, group
			if err != nil || !same(got, want) {
				t.Fatalf("%s(%v, %v): %v, %v, not %v", x.name, m, n, got, err, want)
			}
		}
	})
}

// Both maps have the id, one alone, none.
func TestU1Unmapped(t *testing.T) {
	m := maps()
	for _, x := range []struct {
		name        string
		user, group int
		inside      error
		out         error
	}{
		{"both, as within", 9, 4, api.ErrUnmapped, nil},
		{"both, as outside", 1009, 1004, nil, api.ErrUnmapped},
		{"both, the first ones within", 0, 0, api.ErrUnmapped, nil},
		{"both, the first ones outside", 1000, 1000, nil, api.ErrUnmapped},
		{"the user alone, as within", 9, 5, api.ErrUnmapped, api.ErrUnmapped},
		{"the group alone, as within", 10, 4, api.ErrUnmapped, api.ErrUnmapped},
		{"the user alone, as outside", 1009, 1005, api.ErrUnmapped, api.ErrUnmapped},
		{"the group alone, as outside", 1010, 1004, api.ErrUnmapped, api.ErrUnmapped},
		{"the user as within, the group as outside", 1, 1001, api.ErrUnmapped, api.ErrUnmapped},
		{"the user as outside, the group as within", 1001, 1, api.ErrUnmapped, api.ErrUnmapped},
		{"none", 10, 5, api.ErrUnmapped, api.ErrUnmapped},
		{"no ids", -1, 65536, api.ErrUnmapped, api.ErrUnmapped},
	} {
		n := full(api.Dir, x.user, x.group, kid("a", full(api.File, 70, 70)))
		want := n
		want.User, want.Group = x.user-outside, x.group-outside
		if got, err := copyup.Inside(m, n); err != x.inside || err == nil && !same(got, want) || err != nil && !zero(got) {
			t.Errorf("%s: Inside: %v, %v", x.name, got, err)
		}
		want.User, want.Group = x.user+outside, x.group+outside
		if got, err := copyup.Outside(m, n); err != x.out || err == nil && !same(got, want) || err != nil && !zero(got) {
			t.Errorf("%s: Outside: %v, %v", x.name, got, err)
		}
	}
}

// The users' map is asked for users alone, the groups' for groups.
func TestU1EachByItsMap(t *testing.T) {
	m := api.Maps{Users: []api.Range{{In: 1, Out: 100, Count: 2}}, Groups: []api.Range{{In: 1, Out: 200, Count: 2}}}
	if got, err := copyup.Outside(m, api.Node{Kind: api.File, User: 2, Group: 1}); err != nil || got.User != 101 || got.Group != 200 {
		t.Errorf("Outside: %v, %v", got, err)
	}
	if got, err := copyup.Inside(m, api.Node{Kind: api.File, User: 101, Group: 200}); err != nil || got.User != 2 || got.Group != 1 {
		t.Errorf("Inside: %v, %v", got, err)
	}
	if got, err := copyup.Inside(m, api.Node{Kind: api.File, User: 200, Group: 100}); err != api.ErrUnmapped || !zero(got) {
		t.Errorf("Inside: %v, %v", got, err)
	}
	if got := copyup.Seen(m, api.Node{User: 101, Group: 200}, true); got != (api.Thing{User: 2, Group: 1, Mapped: true}) {
		t.Errorf("Seen: %v", got)
	}
	m.Groups[0].In = 11
	if got := copyup.Seen(m, api.Node{User: 2, Group: 11}, false); got != (api.Thing{User: 2, Group: 11, Mapped: true}) {
		t.Errorf("Seen: %v", got)
	}
	if got := copyup.Seen(m, api.Node{User: 11, Group: 2}, false); got != (api.Thing{User: api.Overflow, Group: api.Overflow}) {
		t.Errorf("Seen: %v", got)
	}
}

func TestU1Seen(t *testing.T) {
	m := maps()
	const over = api.Overflow
	for _, x := range []struct {
		name        string
		upper       bool
		user, group int
		want        api.Thing
	}{
		{"an upper's, mapped", true, 1009, 1004, api.Thing{User: 9, Group: 4, Mapped: true}},
		{"an upper's, of 0", true, 1000, 1000, api.Thing{Mapped: true}},
		{"an upper's, the user alone", true, 1009, 1005, api.Thing{User: 9, Group: over}},
		{"an upper's, the group alone", true, 1010, 1004, api.Thing{User: over, Group: 4}},
		{"an upper's, not mapped", true, 999, 1005, api.Thing{User: over, Group: over}},
		{"an upper's, of ids as within", true, 9, 4, api.Thing{User: over, Group: over}},
		{"an upper's, no ids", true, -1, 65536, api.Thing{User: over, Group: over}},
		{"a lower's, mapped", false, 9, 4, api.Thing{User: 9, Group: 4, Mapped: true}},
		{"a lower's, of 0", false, 0, 0, api.Thing{Mapped: true}},
		{"a lower's, the user alone", false, 9, 5, api.Thing{User: 9, Group: over}},
		{"a lower's, the group alone", false, 10, 4, api.Thing{User: over, Group: 4}},
		{"a lower's, not mapped", false, 10, 5, api.Thing{User: over, Group: over}},
		{"a lower's, of ids as outside", false, 1009, 1004, api.Thing{User: over, Group: over}},
		{"a lower's, no ids", false, -1, 65536, api.Thing{User: over, Group: over}},
	} {
		for _, kind := range []int{api.File, api.Dir, api.White, 0, -1, none} {
			for _, mode := range []int{0, 493, api.MaxMode, -5, 1 << 40} {
				n := full(kind, x.user, x.group, kid("a", full(api.Dir, 1, 1)))
				n.Mode = mode
				want := x.want
				want.Dir, want.Mode = kind == api.Dir, mode
				if got := copyup.Seen(m, n, x.upper); got != want {
					t.Errorf("%s, Kind %d: %v, not %v", x.name, kind, got, want)
				}
			}
		}
	}
}

// An id that is Overflow itself is one as others are.
func TestU1SeenOverflow(t *testing.T) {
	m := api.Maps{Users: []api.Range{{In: api.Overflow, Out: 7, Count: 1}}, Groups: []api.Range{{In: 3, Out: api.Overflow, Count: 1}}}
	if got := copyup.Seen(m, api.Node{Kind: api.File, User: 7, Group: api.Overflow}, true); got != (api.Thing{User: api.Overflow, Group: 3, Mapped: true}) {
		t.Errorf("an upper's: %v", got)
	}
	if got := copyup.Seen(m, api.Node{Kind: api.File, User: api.Overflow, Group: 3}, false); got != (api.Thing{User: api.Overflow, Group: 3, Mapped: true}) {
		t.Errorf("a lower's: %v", got)
	}
}

// Seen of any ids, by all maps.
func TestU1SeenOfAll(t *testing.T) {
	eachNode(func(m api.Maps, n api.Node) {
		for _, upper := range []bool{false, true} {
			want := api.Thing{Dir: n.Kind == api.Dir, Mode: n.Mode, User: n.User, Group: n.Group}
			hasUser, hasGroup := false, false
			if upper {
				want.User, hasUser = idmap.FromHost(m.Users, n.User)
				want.Group, hasGroup = idmap.FromHost(m.Groups, n.Group)
			} else {
				_, hasUser = idmap.ToHost(m.Users, n.User)
				_, hasGroup = idmap.ToHost(m.Groups, n.Group)
			}
			if !hasUser {
				want.User = api.Overflow
			}
			if !hasGroup {
				want.Group = api.Overflow
			}
			want.Mapped = hasUser && hasGroup
			if got := copyup.Seen(m, n, upper); got != want {
				t.Fatalf("Seen(%v, %v, %v): %v, not %v", m, n, upper, got, want)
			}
		}
	})
}

// What goes outside and back is what it was, and is seen as it was.
func TestU1ThereAndBack(t *testing.T) {
	eachNode(func(m api.Maps, n api.Node) {
		out, err := copyup.Outside(m, n)
		if err != nil {
			return
		}
		if back, err := copyup.Inside(m, out); err != nil || !same(back, n) {
			t.Fatalf("%v, %v: back: %v, %v", m, n, back, err)
		}
		if was, is := copyup.Seen(m, n, false), copyup.Seen(m, out, true); was != is || !is.Mapped {
			t.Fatalf("%v, %v: seen as %v, then as %v", m, n, was, is)
		}
	})
}
