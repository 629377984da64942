package cred_test

import (
	"math"
	"slices"
	"testing"

	"idshift/api"
	"idshift/cred"
)

// right: somebody in three groups, without capabilities.
func right() api.Cred {
	return api.Cred{User: 5, Group: 7, Groups: []int{2, 9}}
}

func groups(l ...int) api.Cred { return api.Cred{Groups: l} }

// wrongCreds: what Check says of each.
var wrongCreds = []struct {
	name string
	c    api.Cred
	want error
}{
	{"User below 0", api.Cred{User: -1}, api.ErrBound},
	{"User above MaxID", api.Cred{User: api.MaxID + 1}, api.ErrBound},
	{"the smallest User", api.Cred{User: math.MinInt}, api.ErrBound},
	{"the greatest User", api.Cred{User: math.MaxInt}, api.ErrBound},
	{"Group below 0", api.Cred{Group: -1}, api.ErrBound},
	{"Group above MaxID", api.Cred{Group: api.MaxID + 1}, api.ErrBound},
	{"the smallest Group", api.Cred{Group: math.MinInt}, api.ErrBound},
	{"the greatest Group", api.Cred{Group: math.MaxInt}, api.ErrBound},
	{"Caps below 0", api.Cred{Caps: -1}, api.ErrBound},
	{"Caps above AllCaps", api.Cred{Caps: api.AllCaps + 1}, api.ErrBound},
	{"the smallest Caps", api.Cred{Caps: math.MinInt}, api.ErrBound},
	{"the greatest Caps", api.Cred{Caps: math.MaxInt}, api.ErrBound},
	{"one more than MaxGroups", groups(1, 2, 3, 4, 5), api.ErrMany},
	{"far too many", groups(make([]int, 1000)...), api.ErrMany},
	{"too many ahead of out of bounds", groups(-1, 2, 3, 4, 5), api.ErrMany},
	{"too many ahead of not rising", groups(2, 1, 3, 4, 5), api.ErrMany},
	{"User ahead of too many", api.Cred{User: -1, Groups: []int{1, 2, 3, 4, 5}}, api.ErrBound},
	{"Group ahead of too many", api.Cred{Group: -1, Groups: []int{1, 2, 3, 4, 5}}, api.ErrBound},
	{"Caps ahead of too many", api.Cred{Caps: -1, Groups: []int{1, 2, 3, 4, 5}}, api.ErrBound},
	{"User ahead of not rising", api.Cred{User: -1, Groups: []int{2, 1}}, api.ErrBound},
	{"a group below 0", groups(-1), api.ErrBound},
	{"a group above MaxID", groups(api.MaxID + 1), api.ErrBound},
	{"the smallest group", groups(math.MinInt), api.ErrBound},
	{"the greatest group", groups(math.MaxInt), api.ErrBound},
	{"the last group above MaxID", groups(1, 2, 3, api.MaxID+1), api.ErrBound},
	{"a group twice", groups(3, 3), api.ErrShape},
	{"falling", groups(3, 2), api.ErrShape},
	{"the last one falls", groups(1, 2, 4, 3), api.ErrShape},
	{"out of bounds ahead of not rising, of one group", groups(3, -1), api.ErrBound},
	{"the first wrong group tells: not rising", groups(3, 2, -1), api.ErrShape},
	{"the first wrong group tells: out of bounds", groups(3, api.MaxID+1, 2), api.ErrBound},
}

// rightCreds: Check says nothing of them.
var rightCreds = []struct {
	name string
	c    api.Cred
}{
	{"the zero one", api.Cred{}},
	{"an empty list of groups", groups([]int{}...)},
	{"all at the end", api.Cred{User: api.MaxID, Group: api.MaxID, Caps: api.AllCaps}},
	{"groups at both ends", groups(0, api.MaxID)},
	{"MaxGroups", groups(0, 1, 2, 3)},
	{"Group is one of Groups", api.Cred{Group: 3, Groups: []int{3}}},
	{"an ordinary one", right()},
}

func TestC1Check(t *testing.T) {
	for _, x := range wrongCreds {
		if got := cred.Check(x.c); got != x.want {
			t.Errorf("%s: Check: %v, not %v", x.name, got, x.want)
		}
	}
	for _, x := range rightCreds {
		if got := cred.Check(x.c); got != nil {
			t.Errorf("%s: Check: %v", x.name, got)
		}
	}
}

func TestC1Has(t *testing.T) {
	for _, x := range []struct {
		c     api.Cred
		group int
		want  bool
	}{
		{right(), 7, true},
		{right(), 2, true},
		{right(), 9, true},
		{right(), 5, false}, // the user
		{right(), 0, false},
		{right(), -1, false},
		{right(), 8, false},
		{api.Cred{}, 0, true},
		{api.Cred{}, 1, false},
		{groups(0, 1, 2, api.MaxID), api.MaxID, true},
		{groups(), math.MinInt, false},
		{groups(), math.MaxInt, false},
		// Creds that are not right are asked like others.
		{groups(9, 3, -4, 3, 80000, 11), 11, true},
		{groups(9, 3, -4, 3, 80000, 11), -4, true},
		{groups(9, 3, -4, 3, 80000, 11), 80000, true},
		{groups(9, 3, -4, 3, 80000, 11), 10, false},
		{api.Cred{User: -1, Group: math.MinInt, Caps: 99}, math.MinInt, true},
		{groups(math.MaxInt), math.MaxInt, true},
	} {
		if got := cred.Has(x.c, x.group); got != x.want {
			t.Errorf("Has(%v, %d): %v", x.c, x.group, got)
		}
	}
}

func TestC1Can(t *testing.T) {
	for _, x := range []struct {
		caps, what int
		want       bool
	}{
		{0, 0, true},
		{0, api.CapChown, false},
		{api.CapChown, api.CapChown, true},
		{api.CapChown, api.CapAccess, false},
		{api.CapAccess, api.CapAccess, true},
		{api.CapOwner, api.CapOwner, true},
		{api.CapSetid, api.CapSetid, true},
		{api.AllCaps - api.CapSetid, api.CapSetid, false},
		{api.CapChown | api.CapOwner, api.CapChown | api.CapOwner, true},
		{api.CapChown | api.CapOwner, api.CapChown | api.CapAccess, false}, // one of both is not enough
		{api.CapChown, 0, true},
		{api.AllCaps, api.AllCaps, true},
		{api.AllCaps, api.AllCaps + 1, false},
		{api.AllCaps, -1, false},
		{api.AllCaps, math.MinInt, false},
		{api.AllCaps, math.MaxInt, false},
		{-1, -1, true},
		{-1, api.AllCaps, true},
		{-1, math.MinInt, true},
		{math.MinInt, math.MinInt, true},
		{math.MinInt, -1, false},
		{math.MaxInt, api.CapSetid, true},
		{math.MaxInt, math.MinInt, false},
		{16, 16, true},
	} {
		if got := cred.Can(api.Cred{User: -3, Caps: x.caps}, x.what); got != x.want {
			t.Errorf("Can(%d, %d): %v", x.caps, x.what, got)
		}
	}
}

// Each mode from 0 to MaxMode is asked; who may keep what hangs on nothing else.
func TestC3Keep(t *testing.T) {
	for _, x := range []struct {
		name  string
		c     api.Cred
		group int
		keeps bool
	}{
		{"its Group", right(), 7, true},
		{"one of Groups", right(), 9, true},
		{"neither", right(), 8, false},
		{"the user's number", right(), 5, false},
		{"neither, CapSetid", api.Cred{Group: 1, Caps: api.CapSetid}, 2, true},
		{"neither, all others", api.Cred{Group: 1, Caps: api.AllCaps - api.CapSetid}, 2, false},
		{"user 0 alone", api.Cred{Group: 1}, 2, false},
		{"a group that is none", api.Cred{}, -1, false},
		{"the greatest group", api.Cred{}, math.MaxInt, false},
		{"the smallest group", api.Cred{}, math.MinInt, false},
	} {
		for mode := range api.MaxMode + 1 {
			want := mode
			if !x.keeps && mode/1024%2 == 1 {
				want = mode - 1024
			}
			if got := cred.Keep(x.c, mode, x.group); got != want {
				t.Errorf("%s: Keep(%d): %d, not %d", x.name, mode, got, want)
				break
			}
		}
	}
	if got := cred.Keep(api.Cred{Group: 1}, 1517, 2); got != 493 {
		t.Errorf("the document's: Keep: %d", got)
	}
}

func TestC3Wipe(t *testing.T) {
	for _, x := range []struct {
		name  string
		c     api.Cred
		keeps bool
	}{
		{"no capabilities", right(), false},
		{"user 0 alone", api.Cred{}, false},
		{"CapSetid", api.Cred{User: 3, Caps: api.CapSetid}, true},
		{"all others", api.Cred{Caps: api.AllCaps - api.CapSetid}, false},
		{"all", api.Cred{Caps: api.AllCaps}, true},
	} {
		for mode := range api.MaxMode + 1 {
			want := mode
			if !x.keeps {
				want = mode % 1024
			}
			if got := cred.Wipe(x.c, mode); got != want {
				t.Errorf("%s: Wipe(%d): %d, not %d", x.name, mode, got, want)
				break
			}
		}
	}
	if got := cred.Wipe(api.Cred{}, 3564); got != 492 {
		t.Errorf("the document's: Wipe: %d", got)
	}
}

// Of other modes nothing is said, but that the calls end and don't panic.
func TestZ1Modes(t *testing.T) {
	for _, mode := range []int{-1, api.MaxMode + 1, math.MinInt, math.MaxInt} {
		for _, c := range []api.Cred{{}, {Caps: api.AllCaps}, {Caps: -1}, groups(math.MinInt, math.MaxInt)} {
			cred.Keep(c, mode, mode)
			cred.Wipe(c, mode)
		}
	}
}

// same: are two creds alike? (A list that is nil is like an empty one.)
func same(a, b api.Cred) bool {
	return a.User == b.User && a.Group == b.Group && a.Caps == b.Caps && slices.Equal(a.Groups, b.Groups)
}
