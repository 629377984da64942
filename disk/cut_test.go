package disk_test

import (
	"math"
	"testing"

	"idshift/api"
	"idshift/disk"
)

// A Cut of just as many bytes as a Write has, of less, of more, of none: what stands behind it, byte by byte.
func TestD2CutAndWrite(t *testing.T) {
	const old, text = "0123456789", "abcdef"
	for n := range 9 {
		for length := range len(text) + 1 {
			for _, at := range []int{0, 1, 4} {
				d := fresh(t, 1)
				write(t, d, 0, old)
				cut(t, d, n)
				err := d.Write(at, text[:length])
				var want error
				done := length
				if length > n {
					want, done = api.ErrOff, n
				}
				if err != want {
					t.Errorf("Cut(%d), Write(%d, %q): %v, not %v", n, at, text[:length], err, want)
				}
				stands(t, "Cut and Write", d, old[:at]+text[:done]+old[at+done:], len(old)+done, want == nil)
			}
		}
	}
}

// step: a Write behind others, and what is so behind it.
type step struct {
	s     string
	err   error
	bytes string
	power bool
}

func TestD2ManyWrites(t *testing.T) {
	for _, x := range []struct {
		cut   int
		steps []step
	}{
		{5, []step{{"abc", nil, "abc", true}, {"de", nil, "abcde", true}, {"", nil, "abcde", true}, {"f", api.ErrOff, "abcde", false}}},
		{5, []step{{"abc", nil, "abc", true}, {"", nil, "abc", true}, {"def", api.ErrOff, "abcde", false}, {"g", api.ErrOff, "abcde", false}}},
		{5, []step{{"abcd", nil, "abcd", true}, {"efghi", api.ErrOff, "abcde", false}, {"", api.ErrOff, "abcde", false}}},
		{1, []step{{"", nil, "", true}, {"a", nil, "a", true}, {"", nil, "a", true}, {"", nil, "a", true}, {"bc", api.ErrOff, "a", false}}},
		{0, []step{{"", nil, "", true}, {"", nil, "", true}, {"a", api.ErrOff, "", false}, {"", api.ErrOff, "", false}}},
		{64, []step{{"abc", nil, "abc", true}, {"def", nil, "abcdef", true}}},
		{math.MaxInt, []step{{"abc", nil, "abc", true}, {"", nil, "abc", true}, {"def", nil, "abcdef", true}}},
	} {
		d := fresh(t, 1)
		cut(t, d, x.cut)
		for i, s := range x.steps {
			if err := d.Write(d.Written(), s.s); err != s.err {
				t.Errorf("Cut(%d), step %d: %v, not %v", x.cut, i, err, s.err)
			}
			stands(t, "many Writes", d, s.bytes, len(s.bytes), s.power)
		}
	}
}

// A Write of none behind a Cut of none is done, wherever on the disk it is.
func TestD2NoneBehindNone(t *testing.T) {
	d := fresh(t, 1)
	cut(t, d, 0)
	for _, at := range []int{0, 1, 63, 64} {
		write(t, d, at, "")
	}
	stands(t, "none behind none", d, "", 0, true)
	if s, err := d.Read(0, 2); s != "\x00\x00" || err != nil {
		t.Errorf("Read behind it: %q, %v", s, err)
	}
	if err := d.Write(63, "x"); err != api.ErrOff {
		t.Errorf("Write of one: %v", err)
	}
	stands(t, "one behind none", d, "", 0, false)
}

// A Cut takes the place of the one ahead: what is left of that counts no more.
func TestD2CutBehindCut(t *testing.T) {
	for _, x := range []struct {
		first, between, second int
		text                   string
		done                   int
	}{
		{2, 0, 5, "abcdef", 5}, {5, 0, 2, "abcdef", 2}, {0, 0, 3, "abcdef", 3}, {3, 0, 0, "abcdef", 0}, {4, 0, 4, "abcdef", 4},
		{4, 3, 4, "abcdef", 4}, {4, 4, 1, "abcdef", 1}, {4, 2, 6, "abcdef", 6}, {4, 2, 7, "abcdef", 6}, {4, 2, math.MaxInt, "abcdef", 6}, {math.MaxInt, 2, 0, "a", 0},
	} {
		d := fresh(t, 1)
		cut(t, d, x.first)
		write(t, d, 0, "012345"[:x.between])
		cut(t, d, x.second)
		err := d.Write(x.between, x.text)
		done := x.done == len(x.text)
		if done && err != nil || !done && err != api.ErrOff {
			t.Errorf("%v: %v", x, err)
		}
		stands(t, "Cut behind Cut", d, "012345"[:x.between]+x.text[:x.done], x.between+x.done, done)
	}
}

// A Cut below 0 is none: the one ahead stays, or there is none still.
func TestD2CutBelowNone(t *testing.T) {
	for _, n := range []int{-1, -2, -64, math.MinInt} {
		d := fresh(t, 1)
		if err := d.Cut(n); err != api.ErrBound {
			t.Errorf("Cut(%d): %v", n, err)
		}
		write(t, d, 0, "abcdef")
		cut(t, d, 3)
		if err := d.Cut(n); err != api.ErrBound {
			t.Errorf("Cut(%d) behind Cut(3): %v", n, err)
		}
		stands(t, "Cut below 0", d, "abcdef", 6, true)
		if err := d.Write(6, "ghij"); err != api.ErrOff {
			t.Errorf("Cut(%d) behind Cut(3), then a Write: %v", n, err)
		}
		stands(t, "Cut below 0, then a Write", d, "abcdefghi", 9, false)
	}
}

// What a Write has not there it doesn't begin to write, so that power doesn't fail in it.
func TestD2BoundBehindCut(t *testing.T) {
	for n := range 4 {
		d := fresh(t, 1)
		cut(t, d, n)
		for _, at := range []int{-1, 61, 63, 64, 65, math.MaxInt, math.MinInt} {
			if err := d.Write(at, "abcd"); err != api.ErrBound {
				t.Errorf("Cut(%d), Write(%d): %v", n, at, err)
			}
		}
		stands(t, "beyond the end", d, "", 0, true)
		write(t, d, 0, "abcd"[:n])
		if err := d.Write(n, "e"); err != api.ErrOff {
			t.Errorf("Cut(%d) was spent on what was not written, or taken away: %v", n, err)
		}
		stands(t, "beyond the end, then within", d, "abcd"[:n], n, false)
	}
}

// A Read takes nothing of what is left.
func TestD2ReadBehindCut(t *testing.T) {
	d := fresh(t, 1)
	write(t, d, 0, "abc")
	cut(t, d, 2)
	for range 5 {
		if s, err := d.Read(0, 3); s != "abc" || err != nil {
			t.Errorf("Read: %q, %v", s, err)
		}
		if _, err := d.Read(60, 5); err != api.ErrBound {
			t.Errorf("Read beyond: %v", err)
		}
	}
	write(t, d, 3, "de")
	stands(t, "Reads behind a Cut", d, "abcde", 5, true)
}

func TestD2Off(t *testing.T) {
	d := dark(t, 2, "kept")
	for _, at := range append([]int{-1, 0, 1, 127, 128, 129}, far...) {
		for _, n := range append([]int{-1, 0, 1, 128, 129}, far...) {
			if s, err := d.Read(at, n); s != "" || err != api.ErrOff {
				t.Errorf("Read(%d, %d) without power: %q, %v", at, n, s, err)
			}
		}
		for _, s := range []string{"", "x", "xy"} {
			if err := d.Write(at, s); err != api.ErrOff {
				t.Errorf("Write(%d, %q) without power: %v", at, s, err)
			}
		}
	}
	for _, n := range append([]int{-1, 0, 1, 5}, far...) {
		if err := d.Cut(n); err != api.ErrOff {
			t.Errorf("Cut(%d) without power: %v", n, err)
		}
	}
	if d.Blocks() != 2 {
		t.Errorf("%d blocks", d.Blocks())
	}
	stands(t, "without power", d, "kept", 4, false)
	stands(t, "a copy without power", d.Copy(), "kept", 4, false)
}

// What was written stays when power is there again, and the Cuts that were refused are none.
func TestD2On(t *testing.T) {
	d := dark(t, 1, "kept")
	d.Cut(0)
	d.On()
	stands(t, "On", d, "kept", 4, true)
	if s, err := d.Read(0, 5); s != "kept\x00" || err != nil {
		t.Errorf("Read behind On: %q, %v", s, err)
	}
	write(t, d, 4, "and more")
	stands(t, "Write behind On", d, "keptand more", 12, true)
	cut(t, d, 1)
	if err := d.Write(0, "KEPT"); err != api.ErrOff {
		t.Errorf("a Cut behind On: %v", err)
	}
	stands(t, "power failed again", d, "Keptand more", 13, false)
	d.On()
	d.On()
	write(t, d, 1, "EPT")
	stands(t, "On again", d, "KEPTand more", 16, true)
}

// On takes a Cut away though power is there.
func TestD2OnTakesCutAway(t *testing.T) {
	for n := range 4 {
		d := fresh(t, 1)
		cut(t, d, n)
		write(t, d, 0, "abc"[:n])
		d.On()
		write(t, d, n, "a longer text")
		stands(t, "On ahead of the end", d, "abc"[:n]+"a longer text", n+13, true)
	}
	d := fresh(t, 1)
	d.On()
	write(t, d, 0, "abc")
	cut(t, d, 1)
	if err := d.Write(3, "de"); err != api.ErrOff {
		t.Errorf("a Cut behind On: %v", err)
	}
	stands(t, "On of a new disk", d, "abcd", 4, false)
}

// Bytes that were written count each time, those that were left undone do not.
func TestD2Written(t *testing.T) {
	d := fresh(t, 1)
	for i := range 5 {
		write(t, d, 0, "same")
		if d.Written() != 4*(i+1) {
			t.Errorf("%d written behind %d Writes", d.Written(), i+1)
		}
	}
	cut(t, d, 3)
	d.Write(0, "same")
	d.Write(0, "same")
	d.Read(0, 1)
	if d.Written() != 23 {
		t.Errorf("%d written", d.Written())
	}
	d.On()
	d.Write(62, "same")
	d.Write(-1, "same")
	d.Read(0, 9)
	if d.Bytes(); d.Written() != 23 {
		t.Errorf("%d written behind what was refused", d.Written())
	}
	write(t, d, 0, "")
	write(t, d, 60, "same")
	if d.Written() != 27 {
		t.Errorf("%d written at last", d.Written())
	}
}

func TestD2CopyGoesOnApart(t *testing.T) {
	d := fresh(t, 1)
	write(t, d, 0, "both")
	c := d.Copy()
	if c == d || c.Blocks() != 1 {
		t.Fatalf("a copy of %d blocks", c.Blocks())
	}
	stands(t, "a copy", c, "both", 4, true)
	write(t, d, 0, "disk!")
	stands(t, "the copy behind a Write of the disk", c, "both", 4, true)
	write(t, c, 4, "copied")
	stands(t, "the disk behind a Write of the copy", d, "disk!", 9, true)
	stands(t, "the copy behind it", c, "bothcopied", 10, true)
	e := c.Copy()
	write(t, c, 0, "X")
	write(t, e, 1, "Y")
	stands(t, "the copy of a copy", e, "bYthcopied", 11, true)
	stands(t, "the copy", c, "Xothcopied", 11, true)
	stands(t, "the disk at last", d, "disk!", 9, true)
}

// A copy has the Cut that is ahead, and what is left of it; each goes on with its own.
func TestD2CopyHasTheCut(t *testing.T) {
	d := fresh(t, 1)
	cut(t, d, 5)
	write(t, d, 0, "ab")
	c, e := d.Copy(), d.Copy()
	write(t, d, 2, "cde")
	if err := c.Write(2, "wxyz"); err != api.ErrOff {
		t.Errorf("the copy's Cut: %v", err)
	}
	stands(t, "the copy", c, "abwxy", 5, false)
	stands(t, "the disk", d, "abcde", 5, true)
	e.On()
	write(t, e, 2, "more than five")
	if err := d.Write(5, "f"); err != api.ErrOff {
		t.Errorf("the disk's Cut behind the copy's On: %v", err)
	}
	stands(t, "the disk at last", d, "abcde", 5, false)

	d = fresh(t, 1)
	c = d.Copy()
	cut(t, c, 0)
	write(t, d, 0, "no cut")
	d = c.Copy()
	cut(t, c, 9)
	if err := d.Write(0, "x"); err != api.ErrOff {
		t.Errorf("a copy's Cut behind another Cut: %v", err)
	}
	write(t, c, 0, "nine more")
	d.On()
	if err := c.Write(0, "x"); err != api.ErrOff {
		t.Errorf("a Cut behind the copy's On: %v", err)
	}
}

// A copy of a disk without power has none; On of one leaves the other without.
func TestD2CopyHasThePower(t *testing.T) {
	d := dark(t, 1, "kept")
	c := d.Copy()
	stands(t, "a copy without power", c, "kept", 4, false)
	if _, err := c.Read(0, 1); err != api.ErrOff {
		t.Errorf("Read of a copy without power: %v", err)
	}
	c.On()
	write(t, c, 0, "copy")
	stands(t, "the disk behind the copy's On", d, "kept", 4, false)
	stands(t, "the copy behind On", c, "copy", 8, true)
	c = d.Copy()
	d.On()
	stands(t, "the disk behind On", d, "kept", 4, true)
	stands(t, "the copy behind the disk's On", c, "kept", 4, false)
	c = d.Copy()
	cut(t, d, 0)
	d.Write(0, "x")
	stands(t, "the copy behind the disk's failure", c, "kept", 4, true)
	write(t, c, 0, "K")
	stands(t, "the disk without power", d, "kept", 4, false)
}

// Copies of every kind of disk, of no blocks and of the most.
func TestD2CopyOfAnySize(t *testing.T) {
	for _, blocks := range []int{0, 1, api.MaxDisk} {
		d := fresh(t, blocks)
		for _, x := range []*disk.Disk{d.Copy(), d.Copy().Copy()} {
			if x.Blocks() != blocks {
				t.Errorf("a copy of %d blocks has %d", blocks, x.Blocks())
			}
			stands(t, "a copy", x, "", 0, true)
		}
	}
}
