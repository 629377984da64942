package console_test

import (
	"strings"
	"testing"
)

// Boxes come and go, the lowest free number first.
func TestK1Boxes(t *testing.T) {
	told(t, 300, `
boxes => -
left => 100
box 4 0:1000:20 0:1000:20 3 7 0 - => 0
boxes => 0
left => 90
box 1 0:1000:20 0:1000:20 0 0 15 - => 1
box 1 0:1000:20 0:1000:20 0 0 15 - => 2
boxes => 0 1 2
left => 82
unbox 1 => ok
boxes => 0 2
left => 86
unbox 1 => error 5
1 charge => error 5
unbox 99999 => error 5
unbox 5 => error 5
box 2 - - 0 0 0 - => error 11
box 1 0:1000:20 0:1000:20 0 0 15 - => 1
box 1 0:1000:20 0:1000:20 0 0 15 - => 3
box 1 0:1000:20 0:1000:20 0 0 15 - => 4
box 1 0:1000:20 0:1000:20 0 0 15 - => error 2
boxes => 0 1 2 3 4
unbox 4 => ok
box 39 0:1000:20 0:1000:20 0 0 15 - => error 13
left => 78
unbox 0 => ok
left => 88
box 44 0:1000:20 0:1000:20 0 0 15 - => error 13
box 43 0:1000:20 0:1000:20 0 0 15 - => 0
left => 0
boxes => 0 1 2 3
`)
}

// Each word of a box's line is said of the box.
func TestK1BoxWords(t *testing.T) {
	told(t, 300, `
box 1 3:1000:2,10:5000:1 7:1000:3,50:60:2 3 7 15 - => 0
0 stat / => 2 493 3 7 0
0 own / 4 9 => ok
0 own / 5 -1 => error 11
0 own / 10 51 => ok
0 own / 11 -1 => error 11
0 own / 7 -1 => error 11
0 own / -1 10 => error 11
0 own / -1 52 => error 11
0 own / -1 3 => error 11
0 own / 1000 -1 => error 11
0 stat / => 2 493 10 51 0
0 put /a 420 `+strings.Repeat("00", 43)+` => error 12
0 list / => -
0 put /a 420 `+strings.Repeat("00", 42)+` => ok
0 charge => 1
box 1 0:1000:9 0:1000:9 3 7 0 - => 1
1 own / 4 7 => error 10
1 mode / 448 => ok
1 be 4 7 => error 10
box 1 0:1000:9 0:1000:9 3 7 1 - => 2
2 own / 4 7 => ok
2 mode / 448 => error 10
2 put /x 420 - => error 9
box 1 0:1000:9 0:1000:9 3 7 8 - => 3
3 own / 4 7 => error 10
3 be 4 8 => ok
3 mode / 448 => error 10
`)
}

// The order of what is wrong with a box: its lowers, the users' map, the groups', who asks, the quota, how many lowers, what is unmapped; then how many boxes, and the room.
func TestK1BoxErrors(t *testing.T) {
	told(t, 300, `
`+first+` => 0
seal 0 => 0
lowers => 0
box 0 0:0:0 0:0:1,0:1:1 65536 0 0 0,1 => error 5
box 0 0:0:0 0:0:1,0:1:1 65536 0 0 0,0,0,5 => error 5
box 0 0:0:0 0:0:1,0:1:1 65536 0 0 0,0,0,0 => error 1
box 0 0:0:1,0:1:1 0:0:0 65536 0 0 0,0,0,0 => error 3
box 0 0:0:1,1:0:1 0:0:0 65536 0 0 0,0,0,0 => error 3
box 0 0:0:1,1:1:1,2:2:1,3:3:1,4:4:1 0:0:0 65536 0 0 0,0,0,0 => error 2
box 0 0:0:1,1:1:1,2:2:1,3:3:1 0:0:0 65536 0 0 0,0,0,0 => error 1
box 0 0:65535:2 0:0:1,0:1:1 65536 0 0 0,0,0,0 => error 1
box 0 65535:0:2 0:0:1,0:1:1 65536 0 0 0,0,0,0 => error 1
box 0 0:0:1 0:0:1,0:1:1 65536 0 0 0,0,0,0 => error 3
box 1 0:0:1 0:0:1 65536 0 0 0,0,0,0 => error 1
box 1 0:0:1 0:0:1 0 65536 0 0,0,0,0 => error 1
box 1 0:0:1 0:0:1 0 0 16 0,0,0,0 => error 1
box 0 0:0:1 0:0:1 0 0 15 0,0,0,0 => error 1
box 65 0:0:1 0:0:1 0 0 15 0,0,0,0 => error 1
box 64 0:0:1 0:0:1 1 0 15 0,0,0,0 => error 2
box 64 0:0:1 0:0:1 1 0 15 0,0,0 => error 11
box 64 0:0:1 0:0:1 0 1 15 0,0,0 => error 11
box 64 0:0:1 - 0 0 15 0,0,0 => error 11
box 64 0:0:1 0:0:1 0 0 15 0,0,0 => error 13
left => 81
box 1 0:0:1 0:0:1 0 0 15 0,0,0 => 1
box 1 0:65535:1 65535:0:1 0 65535 15 - => 2
box 1 0:0:1,1:1:1,2:2:1,3:3:1 0:0:1 0 0 0 - => 3
box 1 0:0:1 0:0:1 0 0 0 - => 4
box 64 0:0:1 0:0:1 1 0 0 - => error 11
box 64 0:0:1 0:0:1 0 0 0 - => error 2
boxes => 0 1 2 3 4
lowers => 0
`)
}

// Lowers come and go, the lowest free number first; the top one of a box's lowers stands first.
func TestK1Lowers(t *testing.T) {
	told(t, 300, `
lowers => -
seal 0 => error 5
unlower 0 => error 5
`+first+` => 0
0 put /a 420 61 => ok
0 put /b 420 62 => ok
seal 0 => 0
0 put /a 420 41 => ok
0 remove /b => ok
0 put /c 420 43 => ok
seal 0 => 1
lowers => 0 1
left => 80
box 3 0:0:5 0:0:5 0 0 15 0,1 => 1
1 list / => a b c
1 read /a => 61
box 3 0:0:5 0:0:5 0 0 15 1,0 => 2
2 list / => a b c
2 read /a => 41
box 3 0:0:5 0:0:5 0 0 15 1 => 3
3 list / => a c
3 read /c => 43
left => 56
unlower 0 => error 15
unbox 1 => ok
unlower 0 => error 15
unlower 1 => error 15
unbox 2 => ok
unlower 0 => ok
unlower 0 => error 5
unlower 99999 => error 5
seal 99999 => error 5
lowers => 1
3 list / => a c
seal 3 => 0
seal 3 => 2
seal 3 => 3
seal 3 => 4
seal 3 => error 2
lowers => 0 1 2 3 4
left => 69
unlower 2 => ok
lowers => 0 1 3 4
seal 0 => 2
boxes => 0 3
unbox 0 => ok
unbox 3 => ok
boxes => -
lowers => 0 1 2 3 4
left => 95
`)
}

// A lower that there is no room for.
func TestK1NoRoom(t *testing.T) {
	told(t, 204, `
box 1 0:0:1 0:0:1 0 0 15 - => 0
left => 0
seal 0 => error 13
lowers => -
unbox 0 => ok
left => 4
`)
}
