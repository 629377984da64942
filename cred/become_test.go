package cred_test

import (
	"math"
	"slices"
	"testing"

	"idshift/api"
	"idshift/cred"
)

// with: right's cred with other capabilities.
func with(caps int) api.Cred {
	c := right()
	c.Caps = caps
	return c
}

// now: who right's cred becomes: its Groups stay.
func now(user, group, caps int) api.Cred {
	return api.Cred{User: user, Group: group, Groups: right().Groups, Caps: caps}
}

func TestC2Become(t *testing.T) {
	root := api.Cred{User: 0, Group: 0, Caps: api.AllCaps}
	others := api.AllCaps - api.CapSetid
	for _, x := range []struct {
		name        string
		c           api.Cred
		user, group int
		want        api.Cred
		err         error
	}{
		{"oneself", right(), 5, 7, now(5, 7, 0), nil},
		{"another group that one has", right(), 5, 2, now(5, 2, 0), nil},
		{"the last group that one has", right(), 5, 9, now(5, 9, 0), nil},
		{"a group that one has not", right(), 5, 8, api.Cred{}, api.ErrPerm},
		{"another user", right(), 6, 7, api.Cred{}, api.ErrPerm},
		{"user 0", right(), 0, 7, api.Cred{}, api.ErrPerm},
		{"another user and group", right(), 6, 8, api.Cred{}, api.ErrPerm},
		{"the same user keeps its capabilities", with(others), 5, 2, now(5, 2, others), nil},
		{"other capabilities don't help: user", with(others), 6, 7, api.Cred{}, api.ErrPerm},
		{"other capabilities don't help: group", with(others), 5, 8, api.Cred{}, api.ErrPerm},
		{"CapSetid: the same user, any group", with(api.CapSetid), 5, 8, now(5, 8, api.CapSetid), nil},
		{"CapSetid: another user loses all", with(api.CapSetid), 6, 7, now(6, 7, 0), nil},
		{"all: another user loses all", with(api.AllCaps), 6, 8, now(6, 8, 0), nil},
		{"all: user 0 keeps them", with(api.AllCaps), 0, 0, now(0, 0, api.AllCaps), nil},
		{"CapSetid alone: user 0 gets no more", with(api.CapSetid), 0, 0, now(0, 0, api.CapSetid), nil},
		{"user 0 stays", root, 0, 3, api.Cred{User: 0, Group: 3, Caps: api.AllCaps}, nil},
		{"user 0 becomes another", root, 3, 3, api.Cred{User: 3, Group: 3}, nil},
		{"user 0 without capabilities", api.Cred{}, 1, 0, api.Cred{}, api.ErrPerm},
		{"the last ids", root, api.MaxID, api.MaxID, api.Cred{User: api.MaxID, Group: api.MaxID}, nil},
		{"user below 0", root, -1, 0, api.Cred{}, api.ErrBound},
		{"user above MaxID", root, api.MaxID + 1, 0, api.Cred{}, api.ErrBound},
		{"group below 0", root, 0, -1, api.Cred{}, api.ErrBound},
		{"group above MaxID", root, 0, api.MaxID + 1, api.Cred{}, api.ErrBound},
		{"the smallest numbers", root, math.MinInt, math.MinInt, api.Cred{}, api.ErrBound},
		{"the greatest numbers", root, math.MaxInt, math.MaxInt, api.Cred{}, api.ErrBound},
		{"bounds ahead of rights: user", right(), -1, 8, api.Cred{}, api.ErrBound},
		{"bounds ahead of rights: group", right(), 6, api.MaxID + 1, api.Cred{}, api.ErrBound},
	} {
		if got, err := cred.Become(x.c, x.user, x.group); err != x.err || !same(got, x.want) {
			t.Errorf("%s: Become(%v, %d, %d): %v, %v; not %v, %v", x.name, x.c, x.user, x.group, got, err, x.want, x.err)
		}
	}
}

// Check's error comes ahead of all others.
func TestC2WrongCreds(t *testing.T) {
	for _, x := range wrongCreds {
		for _, id := range []int{x.c.User, 0, 1, -1, math.MaxInt} {
			if got, err := cred.Become(x.c, id, id); err != x.want || !same(got, api.Cred{}) {
				t.Errorf("%s: Become(%d): %v, %v; not %v", x.name, id, got, err, x.want)
			}
		}
	}
}

// calls: each call that is handed a cred; Become answers a list.
func calls() map[string]func(c api.Cred) []int {
	return map[string]func(c api.Cred) []int{
		"Check":  func(c api.Cred) []int { cred.Check(c); return nil },
		"Has":    func(c api.Cred) []int { cred.Has(c, 12); return nil },
		"Can":    func(c api.Cred) []int { cred.Can(c, 1); return nil },
		"Keep":   func(c api.Cred) []int { cred.Keep(c, 1024, 12); return nil },
		"Wipe":   func(c api.Cred) []int { cred.Wipe(c, 1024); return nil },
		"Become": func(c api.Cred) []int { x, _ := cred.Become(c, c.User, c.Group); return x.Groups },
	}
}

func TestZ2GroupsHandedIn(t *testing.T) {
	for _, l := range [][]int{nil, {2, 9}, {0, 1, 2, 3}, {9, 2}, {2, 9, -1}} {
		for name, call := range calls() {
			whole := append(slices.Clone(l), 12, 1)
			kept := slices.Clone(whole)
			got := call(api.Cred{User: 5, Group: 7, Groups: whole[:len(l)]})
			before := slices.Clone(got)
			if !slices.Equal(whole, kept) {
				t.Errorf("%s wrote into what it was handed: %v, not %v", name, whole, kept)
			}
			for i := range whole {
				whole[i] = -7
			}
			if !slices.Equal(got, before) {
				t.Errorf("%s: what it answered is the memory of what it was handed", name)
			}
		}
	}
}

// What stands behind Groups in memory is none of theirs.
func TestZ2NothingBehindIsRead(t *testing.T) {
	whole := []int{2, 9, 12, 1, 1, 1}
	c := api.Cred{User: 5, Group: 7, Groups: whole[:2]}
	if cred.Has(c, 12) || cred.Keep(c, 1024, 12) != 0 || cred.Check(c) != nil {
		t.Error("Has, Keep, Check read behind Groups")
	}
	if got, err := cred.Become(c, 5, 12); err != api.ErrPerm || !same(got, api.Cred{}) {
		t.Errorf("Become reads behind Groups: %v, %v", got, err)
	}
	if got, _ := cred.Become(c, 5, 9); !slices.Equal(got.Groups, []int{2, 9}) {
		t.Errorf("Become: %v", got)
	}
}

func TestZ2AnswersAreFresh(t *testing.T) {
	c := right()
	first, _ := cred.Become(c, 5, 7)
	second, _ := cred.Become(c, 5, 7)
	all := first.Groups[:cap(first.Groups)]
	for i := range all {
		all[i] = -9
	}
	if !same(c, right()) {
		t.Errorf("what Become answers is the memory of what it was handed: %v", c)
	}
	if !same(second, right()) {
		t.Errorf("two answers share memory: %v", second)
	}
	if third, err := cred.Become(c, 5, 7); err != nil || !same(third, right()) {
		t.Errorf("Become kept what it had answered: %v, %v", third, err)
	}
}
