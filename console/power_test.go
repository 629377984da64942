package console_test

import (
	"fmt"
	"slices"
	"strings"
	"testing"
)

// peopled: lines that make boxes, lowers and files.
var peopled = []string{
	first, "0 make /d 511", "0 put /d/f 420 6869", "seal 0",
	"box 4 0:2000:20 0:2000:20 1 1 15 0", "1 put /n 420 00", "seal 1", "1 set /n u.a 01",
}

// changes: lines that write, each behind those.
var changes = []string{
	"box 3 0:3000:5 0:3000:5 2 2 0 0,1", "unbox 0", "unbox 1", "unlower 1", "seal 0",
	"1 put /d/f 420 68", "0 put /g 420 " + strings.Repeat("ab", 150), "1 make /m 493", "1 remove /d/f", "1 move /n /d/n", "0 mode /d 448", "0 own /d 3 4", "1 be 3 3", "1 set /n u.b 02", "1 drop /n u.a",
}

// looks: lines that tell what there is. The last ones, which write, tell who asks in a box, and what goes into it.
func looks() []string {
	l := []string{"left", "boxes", "lowers"}
	for _, id := range []string{"0", "1", "2"} {
		for _, call := range []string{"stat /", "list /", "list /d", "read /d/f", "stat /n", "get /n u.b", "charge"} {
			l = append(l, id+" "+call)
		}
	}
	return append(l, "0 stat /d", "0 read /g", "1 get /n u.a", "1 put /d/who 420 -", "1 stat /d/who", "0 put /d/who 420 -", "0 stat /d/who", "unlower 0", "unlower 1", "seal 0", "left")
}

// behind: what looks tell behind lines.
func behind(t *testing.T, lines ...string) []string {
	t.Helper()
	return run(t, 300, slices.Concat(lines, looks())...)[len(lines):]
}

// Power fails behind each byte of each line that writes: the line is answered by error 16, and behind boot the host is as it was ahead of it, or as it is behind it.
func TestK1EachCut(t *testing.T) {
	for _, line := range changes {
		ahead := behind(t, peopled...)
		after := behind(t, append(slices.Clone(peopled), line)...)
		if got := last(t, 300, peopled, line); strings.HasPrefix(got, "error") || slices.Equal(ahead, after) {
			t.Fatalf("%q => %s changes nothing that is seen", line, got)
		}
		cuts := 0
		for failed := true; failed; cuts++ {
			lines := slices.Concat(peopled, []string{fmt.Sprint("cut ", cuts), line, "boot"}, looks())
			got := run(t, 300, lines...)[len(peopled):]
			failed = got[1] == off
			if got[0] != "ok" || got[2] != "ok" {
				t.Fatalf("%q behind cut %d: %q", line, cuts, got)
			}
			if seen := got[3:]; !slices.Equal(seen, after) && (!failed || !slices.Equal(seen, ahead)) {
				t.Fatalf("%q behind cut %d, %s: %q, neither %q nor %q", line, cuts, got[1], seen, ahead, after)
			}
		}
		if cuts < 2 {
			t.Errorf("%q writes nothing", line)
		}
	}
}

// When power has failed, all that wants it is answered by error 16 till boot; left, boxes and lowers go on answering, and what is no line is none.
func TestK1Off(t *testing.T) {
	told(t, 300, `
`+first+` => 0
0 put /f 420 61 => ok
seal 0 => 0
box 2 0:2000:5 0:2000:5 0 0 15 0 => 1
left => 75
cut 0 => ok
0 read /f => 61
0 be 65536 0 => error 1
unbox 9 => error 5
0 put /f 420 62 => error 16
0 put /f 420 62 => error 16
left => 75
boxes => 0 1
lowers => 0
0 read /f => error 16
0 stat / => error 16
1 list / => error 16
0 be 0 0 => error 16
0 be 65536 0 => error 16
0 charge => error 16
9 charge => error 16
0 stat x => error 16
0 get /f x => error 16
box 2 0:3000:5 0:3000:5 0 0 15 - => error 16
box 0 - - 0 0 16 7 => error 16
unbox 0 => error 16
unbox 9 => error 16
unlower 0 => error 16
unlower 9 => error 16
seal 0 => error 16
seal 9 => error 16
cut 99999 => error 16
cut 0 => error 16
fly => error 17
cut -1 => error 17
0 stat => error 17
boot 0 => error 17
 => error 17
left => 75
boot => ok
0 read /f => 61
0 put /f 420 63 => ok
0 read /f => 63
1 read /f => 61
left => 75
boxes => 0 1
lowers => 0
boot => ok
0 read /f => 63
`)
}

// A line in which power fails ahead of the first byte leaves boxes, lowers and left as they were: ahead of boot, and behind it.
func TestK1OffAdding(t *testing.T) {
	told(t, 300, `
`+first+` => 0
cut 0 => ok
seal 0 => error 16
lowers => -
left => 82
boot => ok
lowers => -
left => 82
cut 0 => ok
box 2 0:2000:5 0:2000:5 0 0 15 - => error 16
boxes => 0
left => 82
boot => ok
boxes => 0
left => 82
cut 0 => ok
unbox 0 => error 16
boxes => 0
boot => ok
boxes => 0
unbox 0 => ok
boxes => -
left => 100
`)
}

// A cut takes the place of the one ahead, and boot takes it away; a boot without need changes nothing.
func TestK1CutAndBoot(t *testing.T) {
	told(t, 300, `
boot => ok
left => 100
cut 0 => ok
boot => ok
`+first+` => 0
cut 0 => ok
cut 99999 => ok
0 put /f 420 61 => ok
cut 99999 => ok
cut 0 => ok
0 put /f 420 62 => error 16
boot => ok
0 put /f 420 63 => ok
0 be 3 4 => ok
boot => ok
boot => ok
0 read /f => 63
0 mode / 448 => error 10
0 be 3 4 => ok
cut 0 => ok
0 be 0 0 => error 10
0 read /f => 63
boot => ok
left => 82
boxes => 0
`)
}

// Power fails again and again, in what each boot has found.
func TestK1CutAgain(t *testing.T) {
	for n := range 120 {
		cut := fmt.Sprint("cut ", n)
		lines := []string{first, "0 make /d 511"}
		for i := range 9 {
			lines = append(lines, cut, fmt.Sprint("0 put /d/f 420 0", i), "boot", "0 read /d/f", "0 put /d/g 420 00")
		}
		was := "error 5"
		for i, got := range slices.Collect(slices.Chunk(run(t, 300, lines...)[2:], 5)) {
			now := fmt.Sprint("0", i)
			if got[0] != "ok" || got[2] != "ok" || got[4] != "ok" || got[3] != now && (got[1] != off || got[3] != was) {
				t.Fatalf("%s: put %s, %s was there: %q", cut, now, was, got)
			}
			was = got[3]
		}
	}
}
