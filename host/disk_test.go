package host_test

import (
	"strings"
	"testing"

	"idshift/api"
	"idshift/disk"
	"idshift/host"
)

// nothing: an error, and no host.
func nothing(t *testing.T, what string, h *host.Host, err, want error) {
	t.Helper()
	if h != nil || err != want {
		t.Errorf("%s: %v, %v, not %v", what, h, err, want)
	}
}

// unchanged: do something that leaves a disk as it was, to the byte, and writes nothing.
func unchanged(t *testing.T, what string, d *disk.Disk, do func()) {
	t.Helper()
	bytes, written := d.Bytes(), d.Written()
	do()
	if d.Bytes() != bytes || d.Written() != written {
		t.Errorf("%s: the disk is another one, %d bytes were written", what, d.Written()-written)
	}
}

func TestH1Format(t *testing.T) {
	for _, blocks := range []int{200, 201, 300, 1999, 2000} {
		d := blank(t, blocks)
		h, err := host.Format(d)
		if err != nil || h == nil {
			t.Fatalf("%d blocks: %v, %v", blocks, h, err)
		}
		stands(t, "formatted", h, nil, nil, blocks-200)
		stands(t, "opened", peek(t, d), nil, nil, blocks-200)
		for id := range api.MaxBoxes {
			for call, err := range map[string]error{"DropLower": h.DropLower(id), "DropBox": h.DropBox(id)} {
				if err != api.ErrNone {
					t.Errorf("%d blocks: %s(%d): %v", blocks, call, id, err)
				}
			}
		}
	}
}

func TestH1TooSmall(t *testing.T) {
	for _, blocks := range []int{0, 1, 2, 3, 100, 198, 199} {
		d := blank(t, blocks)
		unchanged(t, "a small disk", d, func() {
			h, err := host.Format(d)
			nothing(t, "Format", h, err, api.ErrBound)
			h, err = host.Open(d)
			nothing(t, "Open", h, err, api.ErrBound)
		})
	}
}

// ErrOff is told ahead of ErrBound, and of ErrText; such a call does nothing, and so it's no matter behind On.
func TestH1Off(t *testing.T) {
	for _, blocks := range []int{1, 199, 200, 300} {
		d := blank(t, blocks)
		darken(t, d)
		unchanged(t, "without power", d, func() {
			h, err := host.Format(d)
			nothing(t, "Format", h, err, api.ErrOff)
			h, err = host.Open(d)
			nothing(t, "Open", h, err, api.ErrOff)
		})
		d.On()
		_, err := host.Open(d)
		if want := []error{api.ErrText, api.ErrBound}; err != want[0] && err != want[1] || (blocks < 200) != (err == want[1]) {
			t.Errorf("%d blocks: %v behind On", blocks, err)
		}
	}
	d, _ := start(t, 50)
	darken(t, d)
	unchanged(t, "without power", d, func() {
		h, err := host.Open(d)
		nothing(t, "Open of a host", h, err, api.ErrOff)
		h, err = host.Format(d)
		nothing(t, "Format of a host", h, err, api.ErrOff)
	})
	d.On()
	stands(t, "behind On", peek(t, d), nil, nil, 50)
}

// scribbled: disks that were never formatted, but on which something stands.
func scribbled(t *testing.T) []*disk.Disk {
	t.Helper()
	x := die(121)
	var l []*disk.Disk
	for _, blocks := range []int{200, 260} {
		size := blocks * api.Block
		for _, s := range []string{"", "idshift", "\x01", strings.Repeat("\xff", size), strings.Repeat("0", size), strings.Repeat("1", size), strings.Repeat("\x00\x01", size/2), "idshif1" + strings.Repeat("1", size-7)} {
			d := blank(t, blocks)
			done(t, d.Write(0, s))
			l = append(l, d)
		}
		d := blank(t, blocks)
		b := make([]byte, size)
		for i := range b {
			b[i] = byte(x.n(256))
		}
		done(t, d.Write(0, string(b)))
		l = append(l, d)
	}
	return l
}

func TestH1OpenOfNothing(t *testing.T) {
	for _, d := range scribbled(t) {
		unchanged(t, "never formatted", d, func() {
			h, err := host.Open(d)
			nothing(t, "Open", h, err, api.ErrText)
		})
	}
}

// Whatever stood on a disk, behind Format it is a host's, and that has nothing.
func TestH1FormatOfAnything(t *testing.T) {
	for _, d := range scribbled(t) {
		h, err := host.Format(d)
		if err != nil {
			t.Fatal(err)
		}
		room := d.Blocks() - 200
		stands(t, "formatted", h, nil, nil, room)
		stands(t, "opened", peek(t, d), nil, nil, room)
		if room > 50 {
			addLower(t, h, dir("a", file("x")), 0)
			addBox(t, h, config(9, 0), 0)
			put(t, h, 0, "/b", "y")
			if h = open(t, d); read(t, h, 0, "/a")+read(t, h, 0, "/b") != "xy" {
				t.Error("what was written is not there")
			}
		}
	}
}

// Boxes and lowers are gone behind another Format, from either side of the disk.
func TestH1FormatAgain(t *testing.T) {
	for more := range 3 {
		d, h := start(t, 100)
		addLower(t, h, dir("a", file("x")), 0)
		addBox(t, h, config(9, 0), 0)
		addBox(t, h, config(3), 1)
		for i := range more {
			put(t, h, 0, "/b", strings.Repeat("y", i+1))
		}
		for range 2 {
			h, err := host.Format(d)
			if err != nil {
				t.Fatal(err)
			}
			stands(t, "formatted again", h, nil, nil, 100)
			stands(t, "formatted again, and opened", peek(t, d), nil, nil, 100)
		}
		h = open(t, d)
		addBox(t, h, config(1), 0)
		if upper, err := h.Upper(0); err != nil || len(upper.Kids) > 0 {
			t.Errorf("%v, %v", upper, err)
		}
		stands(t, "a box of the new host", peek(t, d), nil, []int{0}, 96)
	}
}

// Open finds all that there is, and writes nothing; what is told behind it isn't written either.
func TestH1Open(t *testing.T) {
	d, h := start(t, 200)
	check := func() {
		t.Helper()
		unchanged(t, "Open", d, func() {
			if a, b := seen(h), seen(open(t, d)); a != b {
				t.Errorf("it finds %s, not %s", b, a)
			}
			_ = answers(peek(t, d), 0)
		})
	}
	check()
	addLower(t, h, dir("a", file("1"), "b", dir("c", file("2"))), 0)
	check()
	addLower(t, h, whole(t, 7), 1)
	check()
	addBox(t, h, config(4, 1, 0), 0)
	check()
	addBox(t, h, config(64), 1)
	check()
	for i := range 4 {
		put(t, h, i%2, "/a", strings.Repeat("n", i*50))
		check()
	}
	_, err := h.Do(0, api.Call{Op: api.CallBe, A: 3, B: 4})
	done(t, err)
	check()
	seal(t, h, 0, 2)
	check()
	done(t, h.DropBox(0))
	check()
	done(t, h.DropLower(1))
	check()
	stands(t, "at the end", peek(t, d), []int{0, 2}, []int{1}, 200-130-1-10)
}

// The disk is kept: the host's calls write it, and one that is opened from it goes on there.
func TestH1DiskIsKept(t *testing.T) {
	d, h := start(t, 50)
	c := d.Copy()
	addBox(t, h, config(2), 0)
	stands(t, "the disk", peek(t, d), nil, []int{0}, 44)
	stands(t, "a copy of it", open(t, c), nil, nil, 50)
	h = open(t, d)
	put(t, h, 0, "/a", "x")
	if got := read(t, peek(t, d), 0, "/a"); got != "x" {
		t.Errorf("%q", got)
	}
}
