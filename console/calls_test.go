package console_test

import (
	"strings"
	"testing"
)

// Each call with its answer.
func TestK1Calls(t *testing.T) {
	told(t, 300, `
`+first+` => 0
0 stat / => 2 493 0 0 0
0 list / => -
0 put /f 420 6869ff0a => ok
0 read /f => 6869ff0a
0 stat /f => 1 420 0 0 4
0 put /e 384 - => ok
0 read /e => -
0 stat /e => 1 384 0 0 0
0 put /f 0 2d => ok
0 read /f => 2d
0 stat /f => 1 420 0 0 1
0 make /d 511 => ok
0 stat /d => 2 511 0 0 0
0 make /d/- 448 => ok
0 list /d => -
0 stat /d => 2 511 0 0 1
0 list / => d e f
0 remove /e => ok
0 read /e => error 5
0 move /f /d/g => ok
0 list / => d
0 list /d => - g
0 mode /d/g 4095 => ok
0 stat /d/g => 1 4095 0 0 1
0 own /d/g 3 4 => ok
0 stat /d/g => 1 4095 3 4 1
0 own /d/g -1 5 => ok
0 stat /d/g => 1 4095 3 5 1
0 own /d/g 6 -1 => ok
0 stat /d/g => 1 4095 6 5 1
0 own /d/g -1 -1 => ok
0 stat /d/g => 1 4095 6 5 1
0 set /d u.a 00f0 => ok
0 set /d t.b - => ok
0 get /d u.a => 00f0
0 get /d t.b => -
0 set /d u.a 20 => ok
0 get /d u.a => 20
0 drop /d u.a => ok
0 get /d u.a => error 5
0 get /d t.b => -
0 charge => 1
0 put /big 420 `+strings.Repeat("5a", 180)+` => ok
0 charge => 4
0 stat /big => 1 420 0 0 180
0 read /big => `+strings.Repeat("5a", 180)+`
0 be 7 8 => ok
0 put /d/h 420 - => ok
0 stat /d/h => 1 420 7 8 0
0 be 7 8 => ok
`)
}

// All bytes, as they are written and told.
func TestK1Data(t *testing.T) {
	all := ""
	for i := range 256 {
		all += string("0123456789abcdef"[i/16]) + string("0123456789abcdef"[i%16])
	}
	for i := 0; i < len(all); i += 128 {
		told(t, 300, first+" => 0\n0 put /f 420 "+all[i:i+128]+" => ok\n0 read /f => "+all[i:i+128]+"\n0 stat /f => 1 420 0 0 64")
		value := all[i+60 : i+100]
		told(t, 300, first+" => 0\n0 set / u.a "+value+" => ok\n0 get / u.a => "+value)
	}
}

// What is wrong with calls, by its number.
func TestK2CallErrors(t *testing.T) {
	told(t, 300, `
`+first+` => 0
0 make /d 493 => ok
0 put /d/f 420 61 => ok
0 put /x 4096 - => error 1
0 make /x 99999 => error 1
0 mode /d 4096 => error 1
0 own /d 65536 -1 => error 1
0 own /d -1 99999 => error 1
0 be -1 0 => error 1
0 be 0 -1 => error 1
0 be 65536 0 => error 1
0 set /d u.a `+strings.Repeat("00", 21)+` => error 1
0 set /d u.a `+strings.Repeat("00", 20)+` => ok
0 make /1 493 => ok
0 make /1/2 493 => ok
0 make /1/2/3 493 => ok
0 make /1/2/3/4 493 => ok
0 make /1/2/3/4/5 493 => ok
0 make /1/2/3/4/5/6 493 => ok
0 make /1/2/3/4/5/6/7 493 => error 2
0 move /d /1/2/3/4/5/d => error 2
0 set /d u.b - => ok
0 set /d u.c - => ok
0 set /d u.d - => ok
0 set /d u.e - => error 2
0 move /d /d/e => error 3
0 stat /y => error 5
0 drop /d u.e => error 5
0 make /d 493 => error 6
0 move /d /1 => error 6
0 put /d 420 - => error 7
0 put / 420 - => error 7
0 list /d/f => error 7
0 read /d => error 7
0 stat /d/f/g => error 7
0 remove /d => error 8
0 remove / => error 15
0 move / /y => error 15
0 move /d / => error 15
0 be 20 0 => error 11
0 be 0 20 => error 11
0 own /d/f 20 -1 => error 11
0 put /d/f 420 `+strings.Repeat("00", 185)+` => ok
0 put /q 420 `+strings.Repeat("00", 185)+` => error 12
0 list / => 1 d
0 be 3 3 => ok
0 be 0 0 => error 10
0 mode /d 0 => error 10
0 own /d 3 3 => error 10
0 set /d t.a - => error 10
0 get /d t.a => error 10
0 set /d u.a - => error 9
0 put /q 420 - => error 9
0 make /q 493 => error 9
0 remove /d/f => error 9
0 move /d/f /f => error 9
`)
}

// Words that are no path, and no name: lines they are all the same, and boxes say what they are.
func TestK2NoPaths(t *testing.T) {
	for _, p := range []string{"-", "a", "//", "/a/", "/a//b", "/A", "/.", "/..", "/a\tb", "/a\x00", "/\xff", "/ü", "/1234567890123", "/a/b/c/d/e/f/g/", "\n", "-1", "0"} {
		var lines []string
		for _, shape := range []string{"stat P", "list P", "read P", "get P u.a", "put P 420 -", "make P 493", "remove P", "move P /f", "move /f P", "mode P 420", "own P 1 1", "set P u.a 00", "drop P u.a"} {
			lines = append(lines, "0 "+strings.Replace(shape, "P", p, 1))
		}
		for i, got := range run(t, 300, append([]string{first, "0 put /f 420 61"}, lines...)...)[2:] {
			if got != "error 4" {
				t.Errorf("%q => %s", lines[i], got)
			}
		}
	}
	for _, name := range []string{"a", "u.", "t.", "u", ".", "-", "x.a", "u.A", "u..", "u...", "u.1234567890123", "u.a\t", "\xff", "/f", "u./", "U.a", "0"} {
		lines := []string{first, "0 put /f 420 61", "0 get /f " + name, "0 set /f " + name + " 00", "0 drop /f " + name}
		for i, got := range run(t, 300, lines...)[2:] {
			if got != "error 4" {
				t.Errorf("%q => %s", lines[i+2], got)
			}
		}
	}
	told(t, 300, first+" => 0\n0 make /a/b/c/d/e/f/g 493 => error 2\n0 set / u... 00 => error 4\n0 set / u.... 00 => ok\n0 set / t.- 01 => ok\n0 get / t.- => 01")
}

// Of several things that are wrong: that it is no line; that no box has the number; what the call tells first.
func TestK2Order(t *testing.T) {
	told(t, 300, `
`+first+` => 0
0 put /f 420 61 => ok
7 stat => error 17
7 fly => error 17
7 put /f 420 0 => error 17
7 stat x => error 5
7 put x 4096 - => error 5
7 be 65536 0 => error 5
99999 charge => error 5
0 put x 4096 - => error 1
0 put x 4095 - => error 4
0 make x 4096 => error 1
0 own x 65536 0 => error 1
0 own x 20 0 => error 4
0 own /x 20 0 => error 5
0 own /f 20 0 => error 11
0 set x y `+strings.Repeat("00", 21)+` => error 4
0 set x u.y `+strings.Repeat("00", 21)+` => error 1
0 set x u.y - => error 4
0 set /x u.y - => error 5
0 get /x y => error 4
0 move / x => error 15
0 move x / => error 15
0 move /x y => error 4
0 move /x /y => error 5
0 be 65536 20 => error 1
0 be 20 20 => error 11
0 remove x => error 4
0 remove /x => error 5
`)
}
