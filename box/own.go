package box

import (
	"idshift/api"
	"idshift/attr"
	"idshift/copyup"
	"idshift/cred"
)

// stays: in the place of an id, it is left as it is.
const stays = -1

// give a thing to a user and a group.
func (b *Box) give(c api.Call) error {
	if !isOwner(c.A) || !isOwner(c.B) {
		return api.ErrBound
	}
	f, err := b.at(c.Path)
	if err != nil || c.A == stays && c.B == stays {
		return err
	}
	user, group := orElse(c.A, f.User), orElse(c.B, f.Group)
	if !b.mayGive(f.Thing, user, group) {
		return api.ErrPerm
	}
	ids, err := copyup.Outside(b.maps, api.Node{User: user, Group: group})
	if err != nil {
		return err
	}
	return b.alter(f.names, func(n *api.Node) {
		n.User, n.Group = ids.User, ids.Group
		n.Mode = cred.Wipe(b.cred, n.Mode)
	})
}

// mayGive: may one give it to them? Without CapChown it must be one's own, and may go to one's own groups alone.
func (b *Box) mayGive(t api.Thing, user, group int) bool {
	keeps := t.User == b.cred.User && user == t.User && (group == t.Group || cred.Has(b.cred, group))
	return t.Mapped && (keeps || cred.Can(b.cred, api.CapChown))
}

// describe a thing otherwise: set makes other Attrs of those that it has.
func (b *Box) describe(c api.Call, set func(l []api.Attr) ([]api.Attr, error)) error {
	f, err := b.described(c, api.Write)
	if err != nil {
		return err
	}
	l, err := set(f.node.Attrs)
	if err != nil {
		return err
	}
	return b.alter(f.names, func(n *api.Node) { n.Attrs = l })
}

func (b *Box) get(c api.Call) (api.Told, error) {
	f, err := b.described(c, api.Read)
	if err != nil {
		return api.Told{}, err
	}
	value, err := attr.Get(f.node.Attrs, c.Name)
	return api.Told{Data: value}, err
}

// described: the thing whose attribute is asked for, if one may: of Class 1 by a right, of Class 2 as its owner.
func (b *Box) described(c api.Call, want int) (found, error) {
	class := attr.Class(c.Name)
	if class == 0 {
		return found{}, api.ErrName
	}
	if c.Op == api.CallSet && len(c.Data) > api.MaxValue {
		return found{}, api.ErrBound
	}
	f, err := b.at(c.Path)
	if err != nil {
		return found{}, err
	}
	if class == 1 {
		return f, b.may(f.Thing, want)
	}
	return f, b.owns(f.Thing)
}

// orElse: an id, or the one that is, if it stays.
func orElse(id, is int) int {
	if id == stays {
		return is
	}
	return id
}

// isOwner: may it stand in the place of an id?
func isOwner(x int) bool { return x >= stays && x <= api.MaxID }
