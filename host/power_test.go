package host_test

import (
	"fmt"
	"strings"
	"testing"

	"idshift/api"
	"idshift/disk"
	"idshift/host"
)

// deed: something that a host is asked to do, by a name.
type deed struct {
	what string
	do   func(h *host.Host) error
}

func addingLower(n api.Node) deed {
	return deed{"AddLower", func(h *host.Host) error {
		_, err := h.AddLower(n)
		return err
	}}
}

func sealing(id int) deed {
	return deed{fmt.Sprint("Seal ", id), func(h *host.Host) error {
		_, err := h.Seal(id)
		return err
	}}
}

func droppingLower(id int) deed {
	return deed{fmt.Sprint("DropLower ", id), func(h *host.Host) error { return h.DropLower(id) }}
}

func addingBox(c api.Config) deed {
	return deed{"AddBox", func(h *host.Host) error {
		_, err := h.AddBox(c)
		return err
	}}
}

func droppingBox(id int) deed {
	return deed{fmt.Sprint("DropBox ", id), func(h *host.Host) error { return h.DropBox(id) }}
}

func doing(id int, c api.Call) deed {
	return deed{fmt.Sprintf("Do %d %+v", id, c), func(h *host.Host) error {
		_, err := h.Do(id, c)
		return err
	}}
}

// deeds that change the host of peopled, one by one.
func deeds(t *testing.T) []deed {
	t.Helper()
	odd := config(3, 3, 0)
	odd.Maps.Users = []api.Range{{In: 0, Out: 7, Count: 3}, {In: 20, Out: 100, Count: 2}}
	odd.Cred = api.Cred{User: 21, Group: 5, Groups: []int{1, 300}, Caps: api.AllCaps}
	return []deed{
		addingLower(dir()), addingLower(dir("a", file("some"), "b", dir("c", file("more")))), addingLower(whole(t, 3)), sealing(0), sealing(3),
		droppingLower(3), addingBox(config(1)), addingBox(odd), droppingBox(0), droppingBox(1), droppingBox(3),
		doing(0, putting("/new", "bytes")), doing(0, api.Call{Op: api.CallRemove, Path: "/a"}), doing(0, api.Call{Op: api.CallBe, A: 3, B: 4}),
		doing(1, putting("/f", strings.Repeat("other", 30))), doing(1, api.Call{Op: api.CallOwn, Path: "/", A: 5, B: 5}), doing(3, api.Call{Op: api.CallMove, Path: "/d", Other: "/e"}),
	}
}

// peopled: a disk with lowers and boxes, numbers that are free between, and blocks that are free between. calls: so many more have been there, so that either head holds.
func peopled(t *testing.T, calls int) *disk.Disk {
	t.Helper()
	d, h := start(t, 70)
	addLower(t, h, dir("a", file("A"), "b", dir("c", file("C"))), 0)
	addLower(t, h, whole(t, 4), 1)
	addLower(t, h, dir("a", file("AA"), "x", file(strings.Repeat("X", 100))), 2)
	addLower(t, h, dir("u", file("U"), "v", dir()), 3)
	c := config(4, 2, 0)
	c.Cred.Groups = []int{2, 9}
	addBox(t, h, c, 0)
	addBox(t, h, config(9), 1)
	addBox(t, h, config(2, 0), 2)
	addBox(t, h, config(3), 3)
	done(t, h.DropLower(1))
	done(t, h.DropBox(2))
	put(t, h, 0, "/n", "N")
	put(t, h, 1, "/f", strings.Repeat("F", 150))
	for _, path := range []string{"/d", "/d/e"} {
		_, err := h.Do(3, api.Call{Op: api.CallMake, Path: path, A: 511})
		done(t, err)
	}
	for i := range calls {
		put(t, h, 1, "/g", strings.Repeat("G", i+1))
	}
	return d
}

// after a deed: what is shown then, and how many bytes it writes. The disk stays as it is.
func after(t *testing.T, d *disk.Disk, x deed) (s string, bytes int) {
	t.Helper()
	d = d.Copy()
	h, before := open(t, d), d.Written()
	if err := x.do(h); err != nil {
		t.Fatalf("%s: %v", x.what, err)
	}
	return shown(t, d), d.Written() - before
}

// failing: a deed in which power fails behind n bytes: the host is silent from then on, and the disk has power again.
func failing(t *testing.T, d *disk.Disk, x deed, n int) {
	t.Helper()
	h := open(t, d)
	lowers, boxes, left := h.Lowers(), h.Boxes(), h.Left()
	done(t, d.Cut(n))
	if err := x.do(h); err != api.ErrOff || d.Power() {
		t.Fatalf("%s, power fails behind %d bytes: %v", x.what, n, err)
	}
	silent(t, x.what+", power has failed", h, lowers, boxes, left)
	d.On()
	unchanged(t, x.what+", behind On", d, func() {
		silent(t, x.what+", behind On", h, lowers, boxes, left)
	})
}

// cuts: behind which of so many bytes power fails: behind each, but of very many behind some of them, the first and the last among these.
func cuts(bytes, most int) []int {
	var l []int
	step := 1 + bytes/most
	for n := 0; n < bytes; n++ {
		if n%step == 0 || n < most/4 || n >= bytes-most/4 {
			l = append(l, n)
		}
	}
	return l
}

// Power fails at each byte of what is written: then there is what was ahead, or what is behind.
func TestH4EveryByte(t *testing.T) {
	for calls := range 2 {
		d := peopled(t, calls)
		ahead := shown(t, d)
		for _, x := range deeds(t) {
			behind, bytes := after(t, d, x)
			if ahead == behind || bytes == 0 {
				t.Fatalf("%s changes nothing", x.what)
			}
			for _, n := range cuts(bytes, 2000) {
				c := d.Copy()
				failing(t, c, x, n)
				if s := shown(t, c); s != ahead && s != behind {
					t.Fatalf("%s, power fails behind %d bytes: %s, neither %s nor %s", x.what, n, s, ahead, behind)
				}
			}
			c := d.Copy()
			h := open(t, c)
			done(t, c.Cut(bytes))
			err := x.do(h)
			c.On()
			if err != nil || shown(t, c) != behind {
				t.Errorf("%s, power for all its %d bytes: %v", x.what, bytes, err)
			}
		}
	}
}

// crammed: a box whose bytes are as many as they may be, on a disk that it fills; its last call was one of so many.
func crammed(t *testing.T, quota, calls int) *disk.Disk {
	t.Helper()
	d, h := start(t, 2*(quota+1))
	c := config(quota)
	c.Cred.Groups = []int{1, 2, 3, 65535}
	addBox(t, h, c, 0)
	for i := range calls {
		put(t, h, 0, "/f", strings.Repeat(string(rune('a'+i)), quota*64-22))
	}
	return d
}

// The same where old and new bytes fill all that the box has.
func TestH4Crammed(t *testing.T) {
	for _, quota := range []int{1, 2, 3} {
		for calls := 1; calls < 3; calls++ {
			d := crammed(t, quota, calls)
			ahead := shown(t, d)
			if told, err := peek(t, d).Do(0, api.Call{Op: api.CallStat, Path: "/f"}); err != nil || told.Size != quota*64-22 {
				t.Fatalf("%v, %v", told, err)
			}
			x := doing(0, putting("/f", strings.Repeat("z", quota*64-22)))
			behind, bytes := after(t, d, x)
			for _, n := range cuts(bytes, 2000) {
				c := d.Copy()
				failing(t, c, x, n)
				if s := shown(t, c); s != ahead && s != behind {
					t.Fatalf("quota %d, power fails behind %d bytes: %s, neither %s nor %s", quota, n, s, ahead, behind)
				}
			}
		}
	}
}

// Power fails again in the next call, and in the one behind that, the same or another one; what is found goes on as if nothing had been.
func TestH4Again(t *testing.T) {
	x := die(122)
	all := deeds(t)
	for calls := range 2 {
		d := peopled(t, calls)
		ahead := shown(t, d)
		for range 250 {
			c := d.Copy()
			now := ahead
			for range 2 + x.n(3) {
				next := of(&x, all...)
				if next.do(peek(t, c)) != nil {
					continue
				}
				behind, bytes := after(t, c, next)
				if bytes == 0 {
					continue
				}
				failing(t, c, next, x.n(bytes))
				s := shown(t, c)
				if s != now && s != behind {
					t.Fatalf("%s: %s, neither %s nor %s", next.what, s, now, behind)
				}
				now = s
			}
			next := of(&x, all...)
			if now == ahead {
				want, _ := after(t, d, next)
				if got, _ := after(t, c, next); got != want {
					t.Fatalf("%s: %s, not %s", next.what, got, want)
				}
			}
		}
	}
}

// formatting: Format with a cut behind n bytes.
func formatting(t *testing.T, d *disk.Disk, n int) error {
	t.Helper()
	done(t, d.Cut(n))
	h, err := host.Format(d)
	if (h == nil) != (err != nil) || d.Power() != (err == nil) {
		t.Fatalf("Format: %v, %v", h, err)
	}
	d.On()
	return err
}

// found: what is shown of a disk, or that there is no host.
func found(t *testing.T, d *disk.Disk) string {
	t.Helper()
	if _, err := host.Open(d); err == api.ErrText {
		return "none"
	}
	return shown(t, d)
}

// Power fails in Format: a disk has the host that it had, or none if it had none, or a new one that has nothing.
func TestH4Format(t *testing.T) {
	x := die(123)
	for _, d := range append(scribbled(t), peopled(t, 0), peopled(t, 1)) {
		formatsAnew(t, &x, d)
	}
}

// formatsAnew: power fails at each byte of a Format, and in the next one at some.
func formatsAnew(t *testing.T, x *die, d *disk.Disk) {
	t.Helper()
	ahead := found(t, d)
	c := d.Copy()
	_, err := host.Format(c)
	done(t, err)
	behind, bytes := found(t, c), c.Written()-d.Written()
	stands(t, "formatted", open(t, c), nil, nil, c.Blocks()-api.Table)
	for _, n := range append(cuts(bytes, 200), bytes) {
		c := d.Copy()
		if err := formatting(t, c, n); (err == nil) != (n == bytes) || err != nil && err != api.ErrOff {
			t.Fatalf("%d of %d bytes: %v", n, bytes, err)
		}
		s := found(t, c)
		if s != ahead && s != behind || n == bytes && s != behind {
			t.Fatalf("power fails behind %d bytes: %s, neither %s nor %s", n, s, ahead, behind)
		}
		for range 5 {
			c, m := c.Copy(), x.n(bytes)
			_ = formatting(t, c, m)
			if s := found(t, c); s != ahead && s != behind {
				t.Fatalf("power fails behind %d bytes, and then behind %d: %s", n, m, s)
			}
		}
	}
}

// A disk without power, which didn't fail in a call: the host is silent till On, and then goes on.
func TestH4OffElsewhere(t *testing.T) {
	d := peopled(t, 0)
	h := open(t, d)
	before := seen(h)
	darken(t, d)
	silent(t, "no power", h, []int{0, 2, 3}, []int{0, 1, 3}, h.Left())
	d.On()
	if got := seen(h); got != before {
		t.Errorf("%s, not %s", got, before)
	}
	put(t, h, 0, "/n", "goes on")
	if got := read(t, peek(t, d), 0, "/n"); got != "goes on" {
		t.Errorf("%q", got)
	}
}

// While a cut is ahead there is power: what is there is told, and so are errors.
func TestH4CutAhead(t *testing.T) {
	d := peopled(t, 0)
	h := open(t, d)
	before := seen(h)
	done(t, d.Cut(0))
	if got := seen(h); got != before || h.DropLower(0) != api.ErrHeld || h.DropBox(2) != api.ErrNone {
		t.Errorf("%s, not %s", got, before)
	}
	if _, err := h.Do(0, putting("/none/n", "")); err != api.ErrNone {
		t.Errorf("%v", err)
	}
	refusedLower(t, "no room", h, whole(t, 60), api.ErrNoRoom)
	refusedBox(t, "no lower", h, config(1, 1), api.ErrNone)
	if _, err := h.Do(0, putting("/n", "more")); err != api.ErrOff || d.Power() {
		t.Errorf("%v", err)
	}
	silent(t, "power has failed", h, []int{0, 2, 3}, []int{0, 1, 3}, h.Left())
}

// Of two hosts on copies of a disk one that fails is no matter to the other.
func TestH4Copies(t *testing.T) {
	d := peopled(t, 0)
	c := d.Copy()
	g, h := open(t, c), open(t, d)
	done(t, c.Cut(20))
	if _, err := g.Do(0, putting("/n", "more")); err != api.ErrOff {
		t.Fatal(err)
	}
	put(t, h, 0, "/n", "other")
	c.On()
	if got := read(t, peek(t, d), 0, "/n"); got != "other" {
		t.Errorf("%q", got)
	}
	if _, err := g.Flat(0); err != api.ErrOff {
		t.Errorf("%v", err)
	}
}
