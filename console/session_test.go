package console_test

import (
	"math"
	"strings"
	"testing"

	"idshift/api"
	"idshift/console"
)

// The document's session.
func TestK1K2Session(t *testing.T) {
	told(t, 300, `
box 8 0:1000:10,10:5000:5 0:1000:15 0 0 15 - => 0
0 put /f 420 6869 => ok
0 make /d 493 => ok
0 put /d/g 2541 - => ok
0 own /d/g 12 3 => ok
0 stat /d/g => 1 2541 12 3 0
seal 0 => 0
box 2 0:2000:12 0:2000:15 1 1 0 0 => 1
1 list / => d f
1 stat /d/g => 1 2541 65534 3 0
1 read /f => 6869
1 put /f 420 00 => error 9
1 own /f 1 1 => error 10
box 4 0:3000:15 0:3000:15 0 0 15 0 => 2
2 put /f 420 00 => ok
2 mode /d/g 511 => ok
2 remove /d/g => ok
2 list /d => -
2 move /d /e => error 14
2 remove /d => ok
2 make /d 493 => ok
2 move /d /e => ok
2 charge => 1
2 own /f 20 -1 => error 11
2 be 1 1 => ok
2 put /f 420 - => error 9
2 be 0 0 => error 10
unlower 0 => error 15
unbox 1 => ok
lowers => 0
boxes => 0 2
left => 71
cut 30 => ok
2 be 0 0 => error 10
0 be 3 3 => error 16
left => 71
boot => ok
0 make /x 448 => ok
fly => error 17
`)
}

// refused: a session that there may not be; nothing but the error is answered.
func refused(t *testing.T, blocks int, lines []string, want api.Errno) {
	t.Helper()
	if l, err := console.Run(blocks, lines); err != error(want) || len(l) > 0 {
		t.Errorf("%d blocks, %d lines: %q, %v, not %v", blocks, len(lines), l, err, want)
	}
}

// many: a line again and again.
func many(line string, n int) []string {
	l := make([]string, n)
	for i := range l {
		l[i] = line
	}
	return l
}

func TestK1Blocks(t *testing.T) {
	for _, blocks := range []int{math.MinInt, -2000, -1, 0, 1, api.Table - 1, api.MaxDisk + 1, 1 << 40, math.MaxInt} {
		refused(t, blocks, nil, api.ErrBound)
		refused(t, blocks, []string{"left"}, api.ErrBound)
		// The blocks are asked ahead of the lines.
		refused(t, blocks, many("left", api.MaxLines+1), api.ErrBound)
	}
	told(t, api.Table, "left => 0\nbox 1 0:0:1 0:0:1 0 0 0 - => error 13\nboxes => -\nlowers => -")
	told(t, api.Table+1, "left => 1")
	told(t, api.Table+4, "box 1 0:0:1 0:0:1 0 0 0 - => 0\nleft => 0")
	told(t, api.MaxDisk-1, "left => 1799")
	told(t, api.MaxDisk, "left => 1800")
}

func TestK1Lines(t *testing.T) {
	for _, lines := range [][]string{nil, {}} {
		if l, err := console.Run(300, lines); err != nil || len(l) > 0 {
			t.Errorf("no lines: %q, %v", l, err)
		}
	}
	for _, line := range []string{"left", "", "fly", "boot", strings.Repeat("x", 1000)} {
		for _, blocks := range []int{api.Table, 300, api.MaxDisk} {
			run(t, blocks, many(line, api.MaxLines-1)...)
			run(t, blocks, many(line, api.MaxLines)...)
			refused(t, blocks, many(line, api.MaxLines+1), api.ErrMany)
			refused(t, blocks, many(line, 10*api.MaxLines), api.ErrMany)
		}
	}
}

// A line of MaxText bytes is one as others are; with a byte more it is none, whatever it says.
func TestK2Text(t *testing.T) {
	data := strings.Repeat("6f", 193)
	fits := "0 put /ff 420 " + data
	if len(fits) != api.MaxText {
		t.Fatalf("%d bytes", len(fits))
	}
	if got := run(t, 300, first, fits, "0 read /ff", "0 put /fff 420 "+data, "0 list /"); got[1] != "ok" || got[2] != data || got[3] != noLine || got[4] != "ff" {
		t.Errorf("%q", got)
	}
	for n, want := range map[int]string{api.MaxText - 1: "error 4", api.MaxText: "error 4", api.MaxText + 1: noLine, 2 * api.MaxText: noLine, 1 << 24: noLine} {
		if got := last(t, 300, []string{first}, "0 stat "+strings.Repeat("/", n-7)); got != want {
			t.Errorf("a path in a line of %d bytes: %s, not %s", n, got, want)
		}
	}
	lowers := "box 1 0:0:1 0:0:1 0 0 0 " + strings.Repeat("0,", 187)
	if got := run(t, 300, lowers+"55", lowers+"555"); len(lowers) != api.MaxText-2 || got[0] != "error 5" || got[1] != noLine {
		t.Errorf("lowers in a line of %d bytes, and of one more: %q", len(lowers)+2, got)
	}
}
