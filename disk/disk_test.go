package disk_test

import (
	"math"
	"strings"
	"testing"

	"idshift/api"
	"idshift/disk"
)

func TestD1New(t *testing.T) {
	// 1<<58 blocks have 1<<64 bytes, which wrap round to 0.
	for _, blocks := range append([]int{-2000, -1, api.MaxDisk + 1, 1 << 31, 1 << 58}, far...) {
		if d, err := disk.New(blocks); d != nil || err != api.ErrBound {
			t.Errorf("New(%d): %v, %v", blocks, d, err)
		}
	}
	for _, blocks := range []int{0, 1, 2, 200, api.MaxDisk - 1, api.MaxDisk} {
		d := fresh(t, blocks)
		if d.Blocks() != blocks || d.Written() != 0 || !d.Power() {
			t.Errorf("New(%d): %d blocks, %d written, power %v", blocks, d.Blocks(), d.Written(), d.Power())
		}
		noughts := strings.Repeat("\x00", blocks*64)
		if d.Bytes() != noughts {
			t.Errorf("New(%d): not all noughts, or not so many", blocks)
		}
		if s, err := d.Read(0, blocks*64); s != noughts || err != nil {
			t.Errorf("New(%d): Read: %d bytes, %v", blocks, len(s), err)
		}
	}
}

func TestD1ReadAndWrite(t *testing.T) {
	d := fresh(t, 2)
	write(t, d, 10, "hello")
	write(t, d, 127, "z")
	write(t, d, 0, "a")
	write(t, d, 62, "over")
	write(t, d, 12, "L")
	want := "a" + strings.Repeat("\x00", 9) + "heLlo" + strings.Repeat("\x00", 47) + "over" + strings.Repeat("\x00", 61) + "z"
	stands(t, "five Writes", d, want, 12, true)
	for at := range len(want) + 1 {
		for n := range len(want) - at + 1 {
			if s, err := d.Read(at, n); s != want[at:at+n] || err != nil {
				t.Errorf("Read(%d, %d): %q, %v, not %q", at, n, s, err, want[at:at+n])
			}
		}
	}
	stands(t, "Reads write nothing", d, want, 12, true)
}

// All bytes there are may be written, noughts too.
func TestD1AnyBytes(t *testing.T) {
	d := fresh(t, 4)
	var all []byte
	for i := range 256 {
		all = append(all, byte(i))
	}
	write(t, d, 0, string(all))
	stands(t, "all bytes", d, string(all), 256, true)
	write(t, d, 0, strings.Repeat("\x00", 256))
	stands(t, "noughts", d, "", 512, true)
}

// there: are there n bytes from at on? Of no bytes none is wanting, but their place must be on the disk, or at its end.
func there(size, at, n int) bool {
	if n < 0 || at < 0 || at > size {
		return false
	}
	for i := range n {
		if at+i >= size {
			return false
		}
	}
	return true
}

func TestD1Bounds(t *testing.T) {
	for blocks := range 3 {
		d := fresh(t, blocks)
		size := blocks * api.Block
		for at := -3; at <= size+3; at++ {
			for n := -3; n <= size+3; n++ {
				var want error
				if !there(size, at, n) {
					want = api.ErrBound
				}
				if s, err := d.Read(at, n); err != want || len(s) != 0 && want != nil || len(s) != n && want == nil {
					t.Errorf("%d blocks: Read(%d, %d): %q, %v, not %v", blocks, at, n, s, err, want)
				}
				if n < 0 {
					continue
				}
				before, written := d.Bytes(), d.Written()
				err := d.Write(at, strings.Repeat("x", n))
				if err != want || !d.Power() {
					t.Errorf("%d blocks: Write(%d, %d bytes): %v, not %v", blocks, at, n, err, want)
				}
				if want != nil && (d.Bytes() != before || d.Written() != written) {
					t.Errorf("%d blocks: Write(%d, %d bytes) failed, but wrote", blocks, at, n)
				}
				if want == nil && d.Written() != written+n {
					t.Errorf("%d blocks: Write(%d, %d bytes): %d written, %d ahead", blocks, at, n, d.Written(), written)
				}
			}
		}
	}
}

func TestD1Edges(t *testing.T) {
	last := api.MaxDisk*api.Block - 1
	d := fresh(t, api.MaxDisk)
	write(t, d, 0, "f")
	write(t, d, last, "l")
	write(t, d, 0, "")
	write(t, d, last, "")
	write(t, d, last+1, "")
	for _, x := range []struct {
		at, n int
		want  string
		err   error
	}{
		{0, 0, "", nil}, {0, 1, "f", nil}, {0, 2, "f\x00", nil}, {last - 1, 2, "\x00l", nil}, {last, 1, "l", nil}, {last, 0, "", nil}, {last + 1, 0, "", nil},
		{last, 2, "", api.ErrBound}, {last + 1, 1, "", api.ErrBound}, {last + 2, 0, "", api.ErrBound}, {0, last + 2, "", api.ErrBound}, {1, last + 1, "", api.ErrBound},
		{-1, 0, "", api.ErrBound}, {-1, 1, "", api.ErrBound}, {-1, 2, "", api.ErrBound}, {0, -1, "", api.ErrBound}, {5, -1, "", api.ErrBound}, {-1, -1, "", api.ErrBound}, {last + 2, -1, "", api.ErrBound},
	} {
		if s, err := d.Read(x.at, x.n); s != x.want || err != x.err {
			t.Errorf("Read(%d, %d): %q, %v, not %q, %v", x.at, x.n, s, err, x.want, x.err)
		}
	}
	for _, x := range []struct {
		at int
		s  string
	}{{last, "ab"}, {last + 1, "a"}, {last + 2, ""}, {-1, ""}, {-1, "a"}, {-1, "ab"}, {-2, "ab"}} {
		if err := d.Write(x.at, x.s); err != api.ErrBound {
			t.Errorf("Write(%d, %q): %v", x.at, x.s, err)
		}
	}
	stands(t, "edges", d, "f"+strings.Repeat("\x00", last-1)+"l", 2, true)
}

// A disk of no blocks has no byte, but it is one.
func TestD1NoBlocks(t *testing.T) {
	d := fresh(t, 0)
	write(t, d, 0, "")
	if s, err := d.Read(0, 0); s != "" || err != nil {
		t.Errorf("Read of none: %q, %v", s, err)
	}
	if s, err := d.Read(0, 1); s != "" || err != api.ErrBound {
		t.Errorf("Read of one: %q, %v", s, err)
	}
	if err := d.Write(0, "x"); err != api.ErrBound {
		t.Errorf("Write of one: %v", err)
	}
	stands(t, "no blocks", d, "", 0, true)
	cut(t, d, 0)
	write(t, d, 0, "")
	if err := d.Write(0, "x"); err != api.ErrBound {
		t.Errorf("Write of one behind a Cut: %v", err)
	}
	stands(t, "no blocks, cut", d, "", 0, true)
}

func TestZ1AnyNumbers(t *testing.T) {
	d := fresh(t, 1)
	write(t, d, 0, "kept")
	numbers := append([]int{-1, 0, 1, 64, 65, 1 << 31, math.MaxInt - 64, math.MinInt + 64}, far...)
	for _, at := range numbers {
		for _, n := range numbers {
			ok := at >= 0 && n >= 0 && at <= 64 && n <= 64 && at+n <= 64
			if s, err := d.Read(at, n); (err == nil) != ok || err != nil && (err != api.ErrBound || s != "") {
				t.Errorf("Read(%d, %d): %q, %v", at, n, s, err)
			}
		}
		if at >= 0 && at <= 1 {
			continue
		}
		if err := d.Write(at, "xy"); err != api.ErrBound {
			t.Errorf("Write(%d): %v", at, err)
		}
	}
	stands(t, "any numbers", d, "kept", 4, true)
}

// A text that is longer than any disk.
func TestZ1LongText(t *testing.T) {
	d := fresh(t, api.MaxDisk)
	long := strings.Repeat("x", api.MaxDisk*api.Block+1)
	if err := d.Write(0, long); err != api.ErrBound {
		t.Errorf("one byte too many: %v", err)
	}
	stands(t, "one byte too many", d, "", 0, true)
	write(t, d, 0, long[1:])
	stands(t, "all bytes", d, long[1:], len(long)-1, true)
}

// One disk knows nothing of another.
func TestZ2DisksApart(t *testing.T) {
	a, b := fresh(t, 1), fresh(t, 1)
	write(t, a, 0, "a")
	cut(t, a, 0)
	stands(t, "the other one", b, "", 0, true)
	write(t, b, 0, "bb")
	stands(t, "the one", a, "a", 1, true)
	if err := a.Write(0, "x"); err != api.ErrOff {
		t.Errorf("the one's Cut: %v", err)
	}
	write(t, b, 2, "b")
	stands(t, "the other one at last", b, "bbb", 3, true)
}
