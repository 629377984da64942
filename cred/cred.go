// Package cred: who asks.
package cred

import "idshift/api"

// Check a cred.
func Check(c api.Cred) error {
	if !isID(c.User) || !isID(c.Group) || c.Caps < 0 || c.Caps > api.AllCaps {
		return api.ErrBound
	}
	if len(c.Groups) > api.MaxGroups {
		return api.ErrMany
	}
	for i, g := range c.Groups {
		if !isID(g) {
			return api.ErrBound
		}
		if i > 0 && g <= c.Groups[i-1] {
			return api.ErrShape
		}
	}
	return nil
}

// Has: is one in a group?
func Has(c api.Cred, group int) bool {
	if group == c.Group {
		return true
	}
	for _, g := range c.Groups {
		if g == group {
			return true
		}
	}
	return false
}

// Can: has one that capability?
func Can(c api.Cred, what int) bool {
	return c.Caps&what == what
}

// Become another one.
func Become(c api.Cred, user, group int) (api.Cred, error) {
	if err := Check(c); err != nil {
		return api.Cred{}, err
	}
	if !isID(user) || !isID(group) {
		return api.Cred{}, api.ErrBound
	}
	if !Can(c, api.CapSetid) && (user != c.User || !Has(c, group)) {
		return api.Cred{}, api.ErrPerm
	}
	out := api.Cred{User: user, Group: group, Caps: c.Caps, Groups: own(c.Groups)}
	if user != c.User && user != 0 {
		out.Caps = 0
	}
	return out, nil
}

// Keep: the mode that one gives to what is of a group.
func Keep(c api.Cred, mode, group int) int {
	if Has(c, group) || Can(c, api.CapSetid) {
		return mode
	}
	return mode &^ api.SetGroup
}

// Wipe: the mode that is left when one changes a thing.
func Wipe(c api.Cred, mode int) int {
	if Can(c, api.CapSetid) {
		return mode
	}
	return mode &^ (api.SetUser | api.SetGroup)
}

func isID(x int) bool { return x >= 0 && x <= api.MaxID }

// own memory for a list, so that an answer shares none with what was handed in.
func own(l []int) []int {
	out := make([]int, len(l))
	copy(out, l)
	return out
}
