package host_test

import (
	"fmt"
	"strings"
	"testing"

	"idshift/api"
	"idshift/disk"
	"idshift/host"
)

// shared: a disk with two lowers, and boxes over them.
func shared(t *testing.T) *disk.Disk {
	t.Helper()
	d, h := start(t, 120)
	addLower(t, h, dir("a", file("A"), "b", dir("c", file("C")), "d", dir("a", file("B"))), 0)
	addLower(t, h, dir("a", file("AA"), "b", dir("a", file("X"))), 1)
	for id, quota := range []int{5, 9, 12, 3} {
		addBox(t, h, config(quota, []int{id % 2, 0}...), id)
	}
	return d
}

// noisy: a call of another box, in which power may fail; then the disk is opened anew.
func noisy(t *testing.T, x *die, d *disk.Disk, h *host.Host) *host.Host {
	t.Helper()
	if x.n(3) == 0 {
		done(t, d.Cut(x.n(400)))
	}
	_, _ = h.Do(of(x, 0, 2, 3), drawnCall(x))
	off := !d.Power()
	d.On()
	if off {
		h = open(t, d)
	}
	return h
}

// W1: what a box is answered, and what it becomes, is the same whatever other boxes do, and wherever power fails in that.
func TestW1Apart(t *testing.T) {
	x := die(125)
	for range 120 {
		quiet := shared(t)
		loud := quiet.Copy()
		g, h := open(t, quiet), open(t, loud)
		for range 40 {
			for range x.n(4) {
				h = noisy(t, &x, loud, h)
			}
			c := drawnCall(&x)
			want, wanted := g.Do(1, c)
			told, err := h.Do(1, c)
			if !sameTold(told, want) || err != wanted {
				t.Fatalf("%+v: %v, %v, and beside others that go on %v, %v", c, want, wanted, told, err)
			}
			if one, other := seenBox(g, 1), seenBox(h, 1); one != other {
				t.Fatalf("%+v: %s, and beside others that go on %s", c, one, other)
			}
		}
	}
}

func seenBox(h *host.Host, id int) string {
	upper, err := h.Upper(id)
	flat, err1 := h.Flat(id)
	who, err2 := h.Cred(id)
	return fmt.Sprint(upper, err, flat, err1, who, err2)
}

// W1: neither does it hang on boxes that others have filled, when boxes come and go.
func TestW1ComeAndGo(t *testing.T) {
	x := die(126)
	for range 60 {
		quiet := shared(t)
		loud := quiet.Copy()
		g, h := open(t, quiet), open(t, loud)
		for range 30 {
			h = noisy(t, &x, loud, h)
			s := drawnStep(&x)
			switch {
			case s.kind == stepSeal || s.kind == stepDo:
				// What a box is sealed as hangs on what it did.
				s.kind, s.id = stepDo, 1
			case s.id == 1:
				s.id = 0
			}
			a, b := s.ofHost(g), s.ofHost(h)
			if a.n != b.n || a.err != b.err || !sameTold(a.told, b.told) || g.Left() != h.Left() {
				t.Fatalf("%+v: %v, and beside others that go on %v", s, a, b)
			}
			if one, other := seenBox(g, 1), seenBox(h, 1); one != other {
				t.Fatalf("%+v: %s, and beside others that go on %s", s, one, other)
			}
		}
	}
}

// W4: a lower is what it was when it was added or sealed, whatever is done, till it is dropped.
func TestW4Sealed(t *testing.T) {
	x := die(127)
	for range 60 {
		d := shared(t)
		h := open(t, d)
		was := map[int]string{}
		tell := func(id int) string {
			n, err := h.Lower(id)
			return fmt.Sprint(n, err)
		}
		for _, id := range h.Lowers() {
			was[id] = tell(id)
		}
		for range 60 {
			s := drawnStep(&x)
			if x.n(6) == 0 {
				h = noisy(t, &x, d, h)
			}
			o := s.ofHost(h)
			switch {
			case o.err != nil:
			case s.kind == stepAddLower || s.kind == stepSeal:
				was[o.n] = tell(o.n)
			case s.kind == stepDropLower:
				delete(was, s.id)
			}
			for id, want := range was {
				if got := tell(id); got != want {
					t.Fatalf("%+v: lower %d is %s, not %s", s, id, got, want)
				}
			}
		}
	}
}

// W4: a box writes over what its lowers have, and removes it; the lowers, and other boxes over them, see nothing of it.
func TestW4WrittenOver(t *testing.T) {
	d, h := start(t, 80)
	low := dir("a", file("A"), "b", dir("c", file("C")))
	addLower(t, h, low, 0)
	addBox(t, h, config(9, 0), 0)
	addBox(t, h, config(9, 0), 1)
	other := seenBox(h, 1)
	put(t, h, 0, "/a", "over")
	for _, c := range []api.Call{{Op: api.CallRemove, Path: "/b/c"}, {Op: api.CallRemove, Path: "/b"}, {Op: api.CallMake, Path: "/b", A: 511}, {Op: api.CallOwn, Path: "/a", A: 3, B: 3}, {Op: api.CallSet, Path: "/a", Name: "u.x", Data: "x"}} {
		_, err := h.Do(0, c)
		done(t, err)
		for _, h := range []*host.Host{h, peek(t, d)} {
			if hasLower(t, h, 0, low); seenBox(h, 1) != other {
				t.Errorf("%+v: %s, not %s", c, seenBox(h, 1), other)
			}
		}
	}
	seal(t, h, 0, 1)
	sealed, err := h.Lower(1)
	done(t, err)
	done(t, h.DropBox(0))
	hasLower(t, h, 1, sealed)
	hasLower(t, peek(t, d), 1, sealed)
	addBox(t, h, config(9, 1), 0)
	put(t, h, 0, "/a", "over it again")
	hasLower(t, peek(t, d), 1, sealed)
	hasLower(t, peek(t, d), 0, low)
}

// gaps: a disk on which 56 blocks are free, here and there between lowers and boxes.
func gaps(t *testing.T) (*disk.Disk, *host.Host) {
	t.Helper()
	d, h := start(t, 101)
	for i := range 5 {
		addLower(t, h, whole(t, 3+i), i)
		addBox(t, h, config(2+i), i)
		put(t, h, i, "/f", strings.Repeat("f", 10+i))
	}
	for _, id := range []int{1, 3} {
		done(t, h.DropLower(id))
		done(t, h.DropBox(id))
	}
	stands(t, "gaps", peek(t, d), []int{0, 2, 4}, []int{0, 2, 4}, 101-15-30)
	return d, h
}

// unhurt: all is full, and what stood between the gaps is as it was.
func unhurt(t *testing.T, h *host.Host) {
	t.Helper()
	if h.Left() != 0 {
		t.Errorf("%d left", h.Left())
	}
	for _, i := range []int{0, 2, 4} {
		if got := read(t, h, i, "/f"); got != strings.Repeat("f", 10+i) {
			t.Errorf("box %d: %q", i, got)
		}
		hasLower(t, h, i, whole(t, 3+i))
	}
}

// W6: what is free may stand here and there: what takes just as much is added all the same, and one block more is refused.
func TestW6LowerHereAndThere(t *testing.T) {
	d, h := gaps(t)
	refusedLower(t, "one block more", h, sized(t, 56*64+1), api.ErrNoRoom)
	addLower(t, h, whole(t, 56), 1)
	for _, h := range []*host.Host{h, peek(t, d)} {
		unhurt(t, h)
		hasLower(t, h, 1, whole(t, 56))
	}
}

func TestW6BoxHereAndThere(t *testing.T) {
	d, h := gaps(t)
	refusedBox(t, "two blocks more", h, config(28), api.ErrNoRoom)
	addBox(t, h, config(27), 1)
	text := func(i int) string { return strings.Repeat(fmt.Sprint(i), 200) }
	for i := range 8 {
		put(t, h, 1, fmt.Sprint("/n", i), text(i))
		unhurt(t, peek(t, d))
	}
	for i := range 8 {
		if got := read(t, peek(t, d), 1, fmt.Sprint("/n", i)); got != text(i) {
			t.Errorf("%d: %q", i, got)
		}
	}
}

// W6: the greatest disk, filled to the last block.
func TestW6Filled(t *testing.T) {
	d, h := start(t, 1800)
	for id := range 4 {
		addLower(t, h, greatest(), id)
	}
	for id := range 3 {
		addBox(t, h, config(64, id, id+1), id)
	}
	left := 1800 - 4*341 - 3*130
	stands(t, "nearly", h, []int{0, 1, 2, 3}, []int{0, 1, 2}, left)
	refusedLower(t, "one block more", h, sized(t, left*64+1), api.ErrNoRoom)
	addLower(t, h, whole(t, left-4), 4)
	addBox(t, h, config(1, 4), 3)
	refusedBox(t, "nothing is left", h, config(1), api.ErrNoRoom)
	for _, h := range []*host.Host{h, peek(t, d)} {
		stands(t, "full", h, []int{0, 1, 2, 3, 4}, []int{0, 1, 2, 3}, 0)
		for id := range 4 {
			hasLower(t, h, id, greatest())
		}
		hasLower(t, h, 4, whole(t, left-4))
		// On a full disk boxes go on all the same; what is too much is too much for the quota.
		for i := range 40 {
			put(t, h, i%3, fmt.Sprintf("/n%02d", i%20), strings.Repeat("n", 160+i))
			if _, err := h.Do(3, putting("/n", strings.Repeat("n", 160+i))); err != api.ErrQuota {
				t.Errorf("%v", err)
			}
		}
	}
	for id := range 4 {
		hasLower(t, peek(t, d), id, greatest())
	}
}
