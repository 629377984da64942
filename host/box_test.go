package host_test

import (
	"fmt"
	"slices"
	"strings"
	"testing"

	"idshift/api"
	"idshift/box"
	"idshift/host"
)

func sameCred(a, b api.Cred) bool {
	return a.User == b.User && a.Group == b.Group && a.Caps == b.Caps && slices.Equal(a.Groups, b.Groups)
}

func sameTold(a, b api.Told) bool {
	return a.Kind == b.Kind && a.Mode == b.Mode && a.User == b.User && a.Group == b.Group && a.Size == b.Size && a.Data == b.Data && slices.Equal(a.Names, b.Names)
}

// is: a box of a host, and one that stands for itself; are both the same?
func is(t *testing.T, what string, h *host.Host, id int, b *box.Box) {
	t.Helper()
	upper, err := h.Upper(id)
	flat, err1 := h.Flat(id)
	who, err2 := h.Cred(id)
	if err != nil || err1 != nil || err2 != nil || !sameNode(upper, b.Upper()) || !sameNode(flat, b.Flat()) || !sameCred(who, b.Cred()) {
		t.Errorf("%s: box %d: %v, %v, %v, not %v, %v, %v", what, id, upper, flat, who, b.Upper(), b.Flat(), b.Cred())
	}
}

// A box of a host is what chapter 10 has of that config, over those lowers, in their order.
func TestH3AddBox(t *testing.T) {
	d, h := start(t, 200)
	lowers := []api.Node{dir("a", file("zero"), "b", file("0")), dir("a", file("one"), "c", file("1")), dir("a", file("two"), "d", file("2"))}
	for id, n := range lowers {
		addLower(t, h, n, id)
	}
	left := 197
	for id, l := range [][]int{nil, {1}, {2, 0, 1}, {1, 1, 1}, {0, 2, 0}} {
		c := config(id+1, l...)
		c.Cred = api.Cred{User: id, Group: 1 + id%2, Groups: []int{2, 5, 65535}[:id%4], Caps: 15 - id}
		var under []api.Node
		for _, i := range l {
			under = append(under, lowers[i])
		}
		b, err := box.New(c, under)
		done(t, err)
		addBox(t, h, c, id)
		left -= 2 * (id + 2)
		for _, x := range []*host.Host{h, peek(t, d)} {
			is(t, "new", x, id, b)
			stands(t, "a box more", x, []int{0, 1, 2}, []int{0, 1, 2, 3, 4}[:id+1], left)
		}
	}
	for id, want := range map[int]string{1: "one", 2: "two", 3: "one", 4: "zero"} {
		if got := read(t, peek(t, d), id, "/a"); got != want {
			t.Errorf("box %d: %q, not %q", id, got, want)
		}
	}
}

// configs of all kinds: what they say a box keeps, also behind Open.
func configs() []api.Config {
	far := config(64)
	far.Maps = api.Maps{Users: []api.Range{{In: 0, Out: 0, Count: 65536}}, Groups: []api.Range{{In: 65535, Out: 65535, Count: 1}, {In: 258, Out: 772, Count: 1}, {In: 0, Out: 1, Count: 2}, {In: 300, Out: 60000, Count: 5000}}}
	far.Cred = api.Cred{User: 65535, Group: 65535, Groups: []int{0, 255, 256, 65535}, Caps: 15}
	four := config(1)
	four.Maps.Users = []api.Range{{In: 20, Out: 3, Count: 1}, {In: 5, Out: 40, Count: 5}, {In: 0, Out: 60, Count: 2}, {In: 10, Out: 0, Count: 2}}
	four.Cred.Caps, four.Cred.Groups = 9, []int{3}
	plain := config(3)
	plain.Cred = api.Cred{User: 9, Group: 7}
	return []api.Config{config(1), far, four, plain, config(17)}
}

func TestH3Configs(t *testing.T) {
	for i, c := range configs() {
		d, h := start(t, 130)
		addBox(t, h, c, 0)
		b, err := box.New(c, nil)
		done(t, err)
		for step := range 120 {
			if step%3 == 0 {
				h = open(t, d)
			}
			x := api.Call{Op: api.CallOwn, Path: "/", A: step % 25, B: step % 12}
			switch step % 4 {
			case 0:
				x = putting(fmt.Sprint("/f", step), strings.Repeat("x", 170))
			case 1:
				x.Op, x.A = api.CallMode, 1024+step
			}
			told, err := h.Do(0, x)
			want, wanted := b.Do(x)
			if err != wanted || !sameTold(told, want) {
				t.Fatalf("config %d: %+v: %v, %v, not %v, %v", i, x, told, err, want, wanted)
			}
			is(t, "a call more", h, 0, b)
		}
		if h.Left() != 130-2*(c.Quota+1) {
			t.Errorf("config %d: %d left", i, h.Left())
		}
	}
}

// A box that takes just what is left is added, one of a block more is not, and then nothing has changed.
func TestH3NoRoom(t *testing.T) {
	for _, quota := range []int{1, 2, 17, 63, 64} {
		takes := 2 * (quota + 1)
		for short := range 3 {
			d, h := start(t, takes+4-short)
			addBox(t, h, config(1), 0)
			before := seen(h)
			if short == 0 {
				addBox(t, h, config(quota), 1)
				stands(t, "just enough", h, nil, []int{0, 1}, 0)
				stands(t, "just enough, and opened", peek(t, d), nil, []int{0, 1}, 0)
				continue
			}
			unchanged(t, "no room", d, func() {
				if id, err := h.AddBox(config(quota)); err != api.ErrNoRoom || id != 0 || seen(h) != before {
					t.Errorf("quota %d, %d short: %d, %v", quota, short, id, err)
				}
			})
		}
	}
	for room, want := range map[int]error{0: api.ErrNoRoom, 3: api.ErrNoRoom, 4: nil} {
		_, h := start(t, room)
		if _, err := h.AddBox(config(1)); err != want {
			t.Errorf("room %d: %v", room, err)
		}
	}
}

func TestH3LowestNumber(t *testing.T) {
	for _, x := range []struct{ drop, then []int }{
		{nil, nil}, {[]int{0}, []int{0}}, {[]int{4}, []int{4}}, {[]int{3, 1}, []int{1, 3}}, {[]int{0, 4, 2}, []int{0, 2, 4}}, {[]int{4, 3, 2, 1, 0}, []int{0, 1, 2, 3, 4}},
	} {
		d, h := start(t, 60)
		for id := range 5 {
			addBox(t, h, config(2), id)
			put(t, h, id, "/a", strings.Repeat("o", id))
		}
		for _, id := range x.drop {
			done(t, h.DropBox(id))
			if err := h.DropBox(id); err != api.ErrNone {
				t.Errorf("dropped twice: %v", err)
			}
		}
		left := 30 + 6*len(x.drop)
		if h.Left() != left || peek(t, d).Left() != left {
			t.Errorf("behind %v: %d left", x.drop, h.Left())
		}
		for i, id := range x.then {
			if i%2 == 1 {
				h = open(t, d)
			}
			addBox(t, h, config(3), id)
		}
		for _, h := range []*host.Host{h, peek(t, d)} {
			stands(t, "all again", h, nil, []int{0, 1, 2, 3, 4}, 30-2*len(x.then))
			for id := range 5 {
				want := []string{"a"}
				if slices.Contains(x.drop, id) {
					want = nil
				} else if got := read(t, h, id, "/a"); got != strings.Repeat("o", id) {
					t.Errorf("box %d: %q", id, got)
				}
				if told, err := h.Do(id, api.Call{Op: api.CallList, Path: "/"}); err != nil || !slices.Equal(told.Names, want) {
					t.Errorf("box %d: %v, %v", id, told, err)
				}
			}
		}
		refusedBox(t, "one more", h, config(1), api.ErrMany)
	}
}

// refusedBox: an error, and nothing has changed.
func refusedBox(t *testing.T, what string, h *host.Host, c api.Config, want error) {
	t.Helper()
	before := seen(h)
	if id, err := h.AddBox(c); err != want || id != 0 {
		t.Errorf("%s: AddBox(%v): %d, %v, not %v", what, c, id, err, want)
	}
	if got := seen(h); got != before {
		t.Errorf("%s: it is %s, not %s", what, got, before)
	}
}

// Errors of AddBox, in their order.
func TestH3AddBoxErrors(t *testing.T) {
	with := func(c api.Config, f func(c *api.Config)) api.Config {
		f(&c)
		return c
	}
	bad := []struct {
		what string
		c    api.Config
		want error
	}{
		{"a map", with(config(1), func(c *api.Config) { c.Maps.Users[0].Count = 0 }), api.ErrBound},
		{"the groups' map", with(config(1), func(c *api.Config) { c.Maps.Groups = append(c.Maps.Groups, c.Maps.Groups[0]) }), api.ErrShape},
		{"a cred", with(config(1), func(c *api.Config) { c.Cred.Groups = []int{2, 1} }), api.ErrShape},
		{"no quota", config(0), api.ErrBound}, {"below", config(-1), api.ErrBound}, {"more quota", config(65), api.ErrBound},
		{"four lowers", config(1, 0, 0, 0, 0), api.ErrMany}, {"six lowers", config(1, 0, 2, 0, 0, 2, 2), api.ErrMany},
		{"four lowers, and no quota", config(0, 0, 0, 0, 0), api.ErrBound},
		{"four lowers, and a user", with(config(1, 0, 0, 0, 0), func(c *api.Config) { c.Cred.User = 10 }), api.ErrMany},
		{"a user", with(config(1, 0), func(c *api.Config) { c.Cred.User = 10 }), api.ErrUnmapped},
		{"a group", with(config(1, 0), func(c *api.Config) { c.Cred.Group = 8 }), api.ErrUnmapped},
	}
	for _, x := range bad {
		refusedAnyhow(t, x.what, x.c, x.want)
		_, h := start(t, 1)
		addLower(t, h, dir(), 0)
		if !slices.Contains(x.c.Lowers, 2) {
			refusedBox(t, x.what+", and no room", h, x.c, x.want)
		}
		refusedBox(t, "no room, and no lower", h, config(1, 1), api.ErrNone)
		refusedBox(t, "no room", h, config(1, 0), api.ErrNoRoom)
	}
}

// refusedAnyhow: a config of which Check has that error, on a host with the lowers 0 and 2.
func refusedAnyhow(t *testing.T, what string, c api.Config, want error) {
	t.Helper()
	d, h := start(t, 60)
	for id := range 3 {
		addLower(t, h, dir(), id)
	}
	done(t, h.DropLower(1))
	unchanged(t, what, d, func() { refusedBox(t, what, h, c, want) })
	// One that is no lower is told ahead of all that Check says, wherever it stands.
	for _, id := range append([]int{1, 3, 4}, strays...) {
		for at := range len(c.Lowers) + 1 {
			x := c
			x.Lowers = slices.Insert(slices.Clone(c.Lowers), at, id)
			refusedBox(t, what+", and no lower", h, x, api.ErrNone)
		}
	}
	// Check's errors are told ahead of those of numbers, and of room.
	for id := range 5 {
		addBox(t, h, config(1, 0), id)
	}
	refusedBox(t, what+", and all numbers", h, c, want)
	refusedBox(t, "all numbers, and no lower", h, config(1, 1), api.ErrNone)
	refusedBox(t, "all numbers", h, config(1), api.ErrMany)
	refusedBox(t, "all numbers, and no room", h, config(64), api.ErrMany)
	darken(t, d)
	refusedBox(t, "no power", h, c, api.ErrOff)
	refusedBox(t, "no power, and no lower", h, config(1, 1), api.ErrOff)
}

// Calls of boxes that are none, and of a host without power.
func TestH3NoBox(t *testing.T) {
	d, h := start(t, 60)
	addLower(t, h, dir(), 0)
	addBox(t, h, config(1), 0)
	addBox(t, h, config(1), 1)
	done(t, h.DropBox(0))
	check := func(want error, ids ...int) {
		t.Helper()
		for _, id := range ids {
			told, err := h.Do(id, putting("/a", "x"))
			flat, err1 := h.Flat(id)
			upper, err2 := h.Upper(id)
			who, err3 := h.Cred(id)
			if err != want || err1 != want || err2 != want || err3 != want || h.DropBox(id) != want {
				t.Errorf("box %d: %v, %v, %v, %v", id, err, err1, err2, err3)
			}
			if !sameTold(told, api.Told{}) || !sameNode(flat, api.Node{}) || !sameNode(upper, api.Node{}) || !sameCred(who, api.Cred{}) {
				t.Errorf("box %d: %v, %v, %v, %v", id, told, flat, upper, who)
			}
			// A call that is none is no matter where there is no box.
			if _, err := h.Do(id, api.Call{Op: 99}); err != want {
				t.Errorf("box %d: %v", id, err)
			}
		}
	}
	unchanged(t, "no box", d, func() { check(api.ErrNone, append([]int{0, 2, 3, 4}, strays...)...) })
	darken(t, d)
	unchanged(t, "no power", d, func() { check(api.ErrOff, append([]int{0, 1, 2, 3, 4}, strays...)...) })
	stands(t, "no power", h, []int{0}, []int{1}, 55)
}

// What a call answers, and does, is what chapter 10 has.
func TestH3Do(t *testing.T) {
	d, h := start(t, 60)
	low := dir("a", file("low"), "d", dir("e", file("")))
	addLower(t, h, low, 0)
	c := config(2, 0)
	c.Cred.Groups = []int{3}
	addBox(t, h, c, 0)
	b, err := box.New(c, []api.Node{low})
	done(t, err)
	for i, x := range []api.Call{
		{Op: api.CallStat, Path: "/a"},
		putting("/b", "new"),
		{Op: api.CallList, Path: "/"},
		{Op: api.CallRead, Path: "/b"},
		{Op: api.CallMake, Path: "/d/f", A: 448},
		{Op: api.CallMake, Path: "/d/f", A: 448},
		{Op: api.CallSet, Path: "/a", Name: "u.x", Data: "v"},
		{Op: api.CallGet, Path: "/a", Name: "u.x"},
		{Op: api.CallDrop, Path: "/a", Name: "u.x"},
		{Op: api.CallMode, Path: "/a", A: 511},
		{Op: api.CallOwn, Path: "/a", A: 2, B: -1},
		{Op: api.CallOwn, Path: "/a", A: -1, B: -1},
		{Op: api.CallMove, Path: "/a", Other: "/c"},
		{Op: api.CallMove, Path: "/c", Other: "/c"},
		{Op: api.CallRemove, Path: "/b"},
		{Op: api.CallRemove, Path: "/b"},
		{Op: api.CallCharge},
		putting("/big", strings.Repeat("x", 200)),
		{Op: 0}, {Op: 15},
		{Op: api.CallBe, A: 4, B: 3},
		{Op: api.CallBe, A: 0, B: 0},
		{Op: api.CallRemove, Path: "/c"},
	} {
		told, err := h.Do(0, x)
		want, wanted := b.Do(x)
		if err != wanted || !sameTold(told, want) {
			t.Errorf("call %d: %v, %v, not %v, %v", i, told, err, want, wanted)
		}
		is(t, "behind a call", h, 0, b)
		is(t, "behind a call, and opened", peek(t, d), 0, b)
		stands(t, "behind a call", h, []int{0}, []int{0}, 53)
	}
}

// A box uses all of its quota, time and again, on a disk that is full.
func TestH3FullDisk(t *testing.T) {
	for _, quota := range []int{1, 2, 7, 64} {
		d, h := start(t, 2*(quota+1)+4)
		addBox(t, h, config(1), 0)
		c := config(quota)
		c.Cred.Groups = []int{1, 2, 3, 4}
		addBox(t, h, c, 1)
		root := 10
		for round := range 5 {
			// The bytes of the upper are just those of the quota.
			bytes := root
			for i := 0; bytes < quota*64; i++ {
				size := min(200, quota*64-bytes-13)
				if left := quota*64 - bytes - 13 - size; left > 0 && left < 13 {
					size -= 13
				}
				if _, err := h.Do(1, putting(fmt.Sprintf("/%02d", i), strings.Repeat(string(rune('a'+round)), size))); err != nil {
					t.Fatalf("quota %d, round %d: %v", quota, round, err)
				}
				bytes += 13 + size
			}
			if _, err := h.Do(1, putting("/zz", "")); err != api.ErrQuota {
				t.Errorf("quota %d: %v", quota, err)
			}
			put(t, h, 0, "/a", strings.Repeat("z", 30+round))
			h = open(t, d)
			if told, err := h.Do(1, api.Call{Op: api.CallCharge}); err != nil || told.Size != quota {
				t.Errorf("quota %d: %v, %v", quota, told, err)
			}
			if got := read(t, h, 1, "/00"); strings.Trim(got, string(rune('a'+round))) != "" || got == "" {
				t.Errorf("quota %d: %q", quota, got)
			}
			if got := read(t, h, 0, "/a"); got != strings.Repeat("z", 30+round) {
				t.Errorf("%q", got)
			}
		}
		stands(t, "full", h, nil, []int{0, 1}, 0)
	}
}
