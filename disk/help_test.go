package disk_test

import (
	"math"
	"strings"
	"testing"

	"idshift/api"
	"idshift/disk"
)

// far: numbers at which sums wrap round.
var far = []int{math.MinInt, math.MinInt + 1, math.MaxInt - 1, math.MaxInt}

// fresh disk of blocks that may be.
func fresh(t *testing.T, blocks int) *disk.Disk {
	t.Helper()
	d, err := disk.New(blocks)
	if err != nil || d == nil {
		t.Fatalf("New(%d): %v, %v", blocks, d, err)
	}
	return d
}

// write what must be written.
func write(t *testing.T, d *disk.Disk, at int, s string) {
	t.Helper()
	if err := d.Write(at, s); err != nil {
		t.Fatalf("Write(%d, %q): %v", at, s, err)
	}
}

// cut that may be.
func cut(t *testing.T, d *disk.Disk, n int) {
	t.Helper()
	if err := d.Cut(n); err != nil {
		t.Fatalf("Cut(%d): %v", n, err)
	}
}

// dark: a disk without power, on which the first bytes are those of s.
func dark(t *testing.T, blocks int, s string) *disk.Disk {
	t.Helper()
	d := fresh(t, blocks)
	write(t, d, 0, s)
	cut(t, d, 0)
	if err := d.Write(0, "x"); err != api.ErrOff || d.Power() {
		t.Fatalf("power did not fail: %v", err)
	}
	return d
}

// stands: is a disk just so? Its bytes are those of s, and noughts behind.
func stands(t *testing.T, what string, d *disk.Disk, s string, written int, power bool) {
	t.Helper()
	want := s + strings.Repeat("\x00", d.Blocks()*api.Block-len(s))
	if d.Bytes() != want {
		t.Errorf("%s: on the disk stands %q, not %q", what, d.Bytes(), want)
	}
	if d.Written() != written || d.Power() != power {
		t.Errorf("%s: %d written, power %v, not %d, %v", what, d.Written(), d.Power(), written, power)
	}
}

// die: numbers that look drawn, the same each time.
type die uint64

func (d *die) n(most int) int {
	*d = *d*6364136223846793005 + 1442695040888963407
	return int(uint64(*d>>33) % uint64(most))
}
