package box_test

import (
	"slices"
	"testing"

	"idshift/api"
	"idshift/box"
)

// fault: something that is wrong in a part of a config, or of its lowers.
type fault struct {
	part int
	name string
	err  error
	make func(c *api.Config, lowers *[]api.Node)
}

func ranges(m []api.Range, in, out, count int) []api.Range {
	return append(m, api.Range{In: in, Out: out, Count: count})
}

// faults, part by part in the order in which they are told.
func faults() []fault {
	return []fault{
		{1, "too many ranges of users", api.ErrMany, func(c *api.Config, _ *[]api.Node) { c.Maps.Users = slices.Repeat(c.Maps.Users, 3) }},
		{1, "a range of users out of bounds", api.ErrBound, func(c *api.Config, _ *[]api.Node) { c.Maps.Users = ranges(c.Maps.Users, 65535, 1, 2) }},
		{1, "ranges of users that meet", api.ErrShape, func(c *api.Config, _ *[]api.Node) { c.Maps.Users = ranges(c.Maps.Users, 9, 1, 1) }},
		{2, "too many ranges of groups", api.ErrMany, func(c *api.Config, _ *[]api.Node) { c.Maps.Groups = slices.Repeat(c.Maps.Groups, 5) }},
		{2, "a range of groups out of bounds", api.ErrBound, func(c *api.Config, _ *[]api.Node) { c.Maps.Groups = ranges(c.Maps.Groups, 20, -1, 2) }},
		{2, "ranges of groups that meet", api.ErrShape, func(c *api.Config, _ *[]api.Node) { c.Maps.Groups = ranges(c.Maps.Groups, 20, 2007, 1) }},
		{3, "a user that is none", api.ErrBound, func(c *api.Config, _ *[]api.Node) { c.Cred.User = -1 }},
		{3, "a group that is none", api.ErrBound, func(c *api.Config, _ *[]api.Node) { c.Cred.Group = 65536 }},
		{3, "capabilities that are none", api.ErrBound, func(c *api.Config, _ *[]api.Node) { c.Cred.Caps = 16 }},
		{3, "too many groups", api.ErrMany, func(c *api.Config, _ *[]api.Node) { c.Cred.Groups = []int{1, 2, 3, 4, 5} }},
		{3, "groups that fall", api.ErrShape, func(c *api.Config, _ *[]api.Node) { c.Cred.Groups = []int{2, 1} }},
		{4, "no quota", api.ErrBound, func(c *api.Config, _ *[]api.Node) { c.Quota = 0 }},
		{4, "a quota below 0", api.ErrBound, func(c *api.Config, _ *[]api.Node) { c.Quota = -1 << 63 }},
		{4, "too much quota", api.ErrBound, func(c *api.Config, _ *[]api.Node) { c.Quota = 65 }},
		{5, "too many lowers", api.ErrMany, func(_ *api.Config, l *[]api.Node) { *l = append(*l, trees("d|d")...) }},
		{6, "a first lower that is a File", api.ErrKind, func(_ *api.Config, l *[]api.Node) { (*l)[0] = node("f") }},
		{7, "a second lower with a White", api.ErrShape, func(_ *api.Config, l *[]api.Node) { (*l)[1] = node("d(a=w)") }},
		{8, "a user that the map has not", api.ErrUnmapped, func(c *api.Config, _ *[]api.Node) { c.Cred.User = 15 }},
		{8, "a group that the map has not", api.ErrUnmapped, func(c *api.Config, _ *[]api.Node) { c.Cred.Group = 8 }},
	}
}

// asked: what Check, New and Load say of the same.
func asked(t *testing.T, what string, c api.Config, lowers []api.Node, want error) {
	t.Helper()
	if err := box.Check(c, lowers); err != want {
		t.Errorf("%s: Check: %v, not %v", what, err, want)
	}
	if b, err := box.New(c, lowers); err != want || (b == nil) != (err != nil) {
		t.Errorf("%s: New: %v, %v, not %v", what, b, err, want)
	}
	if want == nil {
		return
	}
	for _, s := range []string{"", start(t, admin(), 1, "").Bytes()} {
		if b, err := box.Load(c, lowers, s); err != want || b != nil {
			t.Errorf("%s: Load: %v, %v, not %v", what, b, err, want)
		}
	}
}

// Each fault by itself, and with each of a part that is told later.
func TestB1Check(t *testing.T) {
	all := faults()
	for i, x := range all {
		for _, y := range all[i:] {
			if y.part == x.part && y.name != x.name {
				continue
			}
			c, l := config(who(3, 4, 0, 1, 2), 5), trees("d(a=f)|d700:70.80(b=d)")
			if y.name != x.name {
				y.make(&c, &l)
			}
			x.make(&c, &l)
			asked(t, x.name+", "+y.name, c, l, x.err)
		}
	}
}

// What is just within bounds; the config's own Lowers aren't looked at.
func TestB1CheckNone(t *testing.T) {
	for _, x := range []struct {
		who    api.Cred
		quota  int
		lowers string
	}{
		{who(0, 0, 0), 1, ""},
		{who(9, 7, 15, 1, 2, 3, 65535), 64, "d|d|d"},
		{who(14, 0, 1), 64, "d7777:65535.65535(a=f0)|d0"},
	} {
		for _, own := range [][]int{nil, {0, 1, 2, 3, 4, 5}, {-1}, {1 << 40}} {
			c := config(x.who, x.quota)
			c.Lowers = own
			asked(t, x.lowers, c, trees(x.lowers), nil)
		}
	}
	c := config(who(3, 0, 0), 1)
	c.Maps = api.Maps{Users: []api.Range{{In: 3, Out: 0, Count: 1}}, Groups: []api.Range{{In: 0, Out: 65535, Count: 1}}}
	asked(t, "small maps", c, nil, nil)
	c.Maps.Users = nil
	asked(t, "a map without ranges", c, nil, api.ErrUnmapped)
}

func TestB1New(t *testing.T) {
	for _, x := range []struct {
		who         api.Cred
		lowers      string
		user, group int
		flat        string
	}{
		{admin(), "", 1000, 2000, "d"},
		{who(9, 7, 0, 3), "", 1009, 2007, "d:9.7"},
		{who(10, 1, 3), "", 5000, 2001, "d:10.1"},
		{who(14, 2, 3), "d700:5.5[u.a~1]", 5004, 2002, "d:14.2"},
		{who(1, 2, 3), "d700(a=f:5.6'x b=d(c=f:70.80))|d(a=d(q=f) b=d(c=f d=f4755'y) e=d)", 1001, 2002, "d:1.2(a=f:5.6'x b=d(c=f:70.80 d=f4755'y) e=d)"},
		{admin(), "d(a=f'1)|d(a=f'2 b=f'2)|d(a=f'3 b=f'3 c=f'3)", 1000, 2000, "d(a=f'1 b=f'2 c=f'3)"},
	} {
		b := start(t, x.who, 1, x.lowers)
		if want := (api.Node{Kind: api.Dir, Mode: 493, User: x.user, Group: x.group}); !same(b.Upper(), want) {
			t.Errorf("over %s: %v, not %v", x.lowers, b.Upper(), want)
		}
		if !sameCred(b.Cred(), x.who) {
			t.Errorf("%v asks, not %v", b.Cred(), x.who)
		}
		play(t, b, "flat => "+x.flat)
	}
}

// Upper's ids are those outside, Flat's those within; a lower's stand as they are, mapped or not.
func TestB1Flat(t *testing.T) {
	b := start(t, who(2, 3, 0), 9, "d(a=f:10.7 b=f:90.91 c=d777:1000.2000(d=f))")
	play(t, b, `
		put /e 600 x => ok
		make /f 700 => ok
		put /f/g 640 y => ok
		upper => d:2.3(e=f600:2.3'x f=d700:2.3(g=f640:2.3'y))
		flat => d:2.3(a=f:10.7 b=f:90.91 c=d777:1000.2000(d=f) e=f600:2.3'x f=d700:2.3(g=f640:2.3'y))
	`)
	u := b.Upper()
	if f := u.Kids[0].Node; u.User != 1002 || u.Group != 2003 || f.User != 1002 || f.Group != 2003 {
		t.Errorf("%v", u)
	}
	play(t, start(t, who(12, 3, 0), 9, ""), `
		put /e 600 x => ok
		upper => d:12.3(e=f600:12.3'x)
		flat => d:12.3(e=f600:12.3'x)
	`)
}

// A Copy goes on apart from its box, both ways.
func TestB1Copy(t *testing.T) {
	b := start(t, who(1, 1, api.CapSetid, 2, 3), 4, "d(a=f666:1.1'x)")
	play(t, b, "make /d 755 => ok")
	before := b.Bytes()
	c := b.copied()
	if c.Box == b.Box || c.Bytes() != before || !same(c.Upper(), b.Upper()) || !same(c.Flat(), b.Flat()) || !sameCred(c.Cred(), b.Cred()) {
		t.Fatalf("a Copy that is another: %q, not %q", c.Bytes(), before)
	}
	play(t, c, `
		move /a /b => ok
		mode /d 700 => ok
		put /d/f 644 y => ok
		be 0 0 => ok
	`)
	if b.Bytes() != before {
		t.Errorf("the box goes on with its Copy: %q, not %q", b.Bytes(), before)
	}
	after := c.Bytes()
	play(t, b, `
		cred => 1.1 8 [2 3]
		remove /d => ok
		set /a u.x 1 => ok
		be 5 2 => ok
		upper => d:1.1(a=f666:1.1[u.x~1]'x)
		flat => d:1.1(a=f666:1.1[u.x~1]'x)
	`)
	if c.Bytes() != after {
		t.Errorf("the Copy goes on with its box: %q, not %q", c.Bytes(), after)
	}
	play(t, c, `
		cred => 0.0 8 [2 3]
		upper => d:1.1(a=w b=f666:1.1'x d=d700:1.1(f=f:1.1'y))
		flat => d:1.1(b=f666:1.1'x d=d700:1.1(f=f:1.1'y))
	`)
}

// A Copy has the maps, the quota and the lowers of its box.
func TestB1CopyHasAll(t *testing.T) {
	b := start(t, admin(), 2, "d(a=f:90.0 b=f'x)").copied().copied()
	play(t, b, `
		put /c 644 *107 => quota
		put /c 644 *100 => ok
		read /b => x
		mode /a 600 => perm
		own /b 15 0 => unmapped
		be 15 0 => unmapped
	`)
}
