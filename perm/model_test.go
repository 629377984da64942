package perm_test

import (
	"math"
	"slices"
	"strings"
	"testing"

	"idshift/api"
	"idshift/perm"
)

// letters of a mode as they are told one by one: rwxrwxrwx, with - for what is not let.
func letters(mode int) string {
	s := ""
	for bit, l := range "xwrxwrxwr" {
		if mode>>bit%2 == 0 {
			l = '-'
		}
		s = string(l) + s
	}
	return s
}

// letterMay is R1, told by letters instead of bits.
func letterMay(c api.Cred, t api.Thing, want int) bool {
	if !slices.Contains([]int{0, 1, 2, 3, 4, 5, 6, 7}, want) {
		return false
	}
	wanted, has := letters(want)[6:], letters(t.Mode)
	count := has[6:]
	if t.Mapped && slices.Contains(append([]int{c.Group}, c.Groups...), t.Group) {
		count = has[3:6]
	}
	if t.Mapped && t.User == c.User {
		count = has[:3]
	}
	let := true
	for _, l := range wanted {
		let = let && (l == '-' || strings.ContainsRune(count, l))
	}
	if let {
		return true
	}
	able := slices.Contains([]int{2, 3, 6, 7, 10, 11, 14, 15}, c.Caps)
	return t.Mapped && able && (t.Dir || !strings.Contains(wanted, "x") || strings.Contains(has, "x"))
}

// eachThing of a kind, of these users and groups, mapped or not.
func eachThing(mode int, each func(t api.Thing)) {
	for _, of := range [][2]int{{user, 7}, {user, 1}, {6, 7}, {6, 2}, {6, 9}, {6, 1}} {
		for _, mapped := range []bool{true, false} {
			for _, d := range []bool{true, false} {
				each(api.Thing{Dir: d, Mode: mode, User: of[0], Group: of[1], Mapped: mapped})
			}
		}
	}
}

func TestR1ByLetters(t *testing.T) {
	for mode := range 512 {
		eachThing(mode, func(x api.Thing) {
			for _, caps := range []int{0, api.CapAccess, api.AllCaps &^ api.CapAccess} {
				for want := -1; want <= 8; want++ {
					if got := perm.May(one(caps), x, want); got != letterMay(one(caps), x, want) {
						t.Fatalf("May(%v, %v, %d): %v", one(caps), x, want, got)
					}
				}
			}
		})
	}
}

// The three bits ahead of the nine are no rights: with them all is as it is without.
func TestR1BitsAhead(t *testing.T) {
	for _, ahead := range []int{api.SetUser, api.SetGroup, api.Sticky, 0o7000} {
		for _, mode := range []int{0, 0o124, 0o421, 0o666, 0o777} {
			eachThing(mode, func(x api.Thing) {
				for caps := range api.AllCaps + 1 {
					for want := range 8 {
						y := x
						y.Mode |= ahead
						if perm.May(one(caps), x, want) != perm.May(one(caps), y, want) {
							t.Fatalf("May(%v, .., %d): %v and %v differ", one(caps), want, x, y)
						}
					}
				}
			})
		}
	}
}

// numbers at the ends of an int, and near the bounds.
var numbers = []int{math.MinInt, math.MinInt + 1, -1, 0, 1, 7, 8, api.MaxMode, api.MaxMode + 1, api.MaxID, api.MaxID + 1, math.MaxInt}

func TestZ1AnyNumbers(t *testing.T) {
	for _, a := range numbers {
		for _, b := range numbers {
			c := api.Cred{User: a, Group: b, Groups: []int{b, a, b}, Caps: b}
			x := api.Thing{Dir: b < 0, Mode: b, User: a, Group: b, Mapped: true}
			if !perm.Owns(c, x) || !perm.Takes(c, x, x) {
				t.Errorf("what is of user %d isn't of %d", a, a)
			}
			if want := b&(api.Read<<6) != 0; c.Caps&api.CapAccess == 0 && perm.May(c, x, api.Read) != want {
				t.Errorf("May Read, of mode %d: %v", b, !want)
			}
			for _, want := range numbers {
				if got := perm.May(c, x, want); got && (want < 0 || want > 7) {
					t.Errorf("May(.., %d): true", want)
				}
				perm.May(c, unmapped(x), want)
			}
			perm.Owns(c, unmapped(x))
			perm.Takes(c, unmapped(x), unmapped(x))
		}
	}
}

func TestZ2Groups(t *testing.T) {
	whole := []int{2, 9, 11, 12}
	c := api.Cred{User: user, Group: 7, Groups: whole[:2]}
	x, d := file(0o070, 6, 11), dir(api.Sticky, 6, 11)
	if perm.May(c, x, api.Read) {
		t.Error("May read behind the groups it was handed")
	}
	perm.Owns(c, x)
	perm.Takes(c, d, x)
	if !slices.Equal(whole, []int{2, 9, 11, 12}) {
		t.Errorf("what was handed in is %v now", whole)
	}
	// What was asked first is not kept: with other groups in the same memory the answer is another one.
	whole[1] = 11
	if !perm.May(c, x, api.Read) {
		t.Error("May kept the groups it was handed")
	}
}
