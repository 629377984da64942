package box

import (
	"idshift/api"
	"idshift/attr"
	"idshift/copyup"
	"idshift/cred"
	"idshift/merge"
	"idshift/quota"
	"idshift/tree"
)

// Do a call.
func (b *Box) Do(c api.Call) (api.Told, error) {
	switch c.Op {
	case api.CallStat:
		return b.stat(c)
	case api.CallList:
		return b.list(c)
	case api.CallRead:
		return b.read(c)
	case api.CallGet:
		return b.get(c)
	case api.CallCharge:
		return api.Told{Size: quota.Blocks(b.upper())}, nil
	}
	return api.Told{}, b.act(c)
}

// act: the calls that tell nothing but what is wrong.
func (b *Box) act(c api.Call) error {
	switch c.Op {
	case api.CallPut:
		return b.write(c)
	case api.CallMake:
		return b.makeDir(c)
	case api.CallRemove:
		return b.discard(c)
	case api.CallMove:
		return b.move(c)
	case api.CallMode:
		return b.mode(c)
	case api.CallOwn:
		return b.give(c)
	case api.CallSet:
		return b.describe(c, func(l []api.Attr) ([]api.Attr, error) { return attr.Set(l, c.Name, c.Data) })
	case api.CallDrop:
		return b.describe(c, func(l []api.Attr) ([]api.Attr, error) { return attr.Drop(l, c.Name) })
	case api.CallBe:
		return b.become(c)
	}
	return api.ErrShape
}

func (b *Box) stat(c api.Call) (api.Told, error) {
	f, err := b.at(c.Path)
	if err != nil {
		return api.Told{}, err
	}
	size := len(f.node.Data)
	if f.Dir {
		size = len(merge.List(b.layers, f.names))
	}
	return api.Told{Kind: f.node.Kind, Mode: f.Mode, User: f.User, Group: f.Group, Size: size}, nil
}

func (b *Box) list(c api.Call) (api.Told, error) {
	f, err := b.open(c.Path, true)
	if err != nil {
		return api.Told{}, err
	}
	return api.Told{Names: merge.List(b.layers, f.names)}, nil
}

func (b *Box) read(c api.Call) (api.Told, error) {
	f, err := b.open(c.Path, false)
	if err != nil {
		return api.Told{}, err
	}
	return api.Told{Data: f.node.Data}, nil
}

// open a directory, or a file, of which one wants to read.
func (b *Box) open(p string, dir bool) (found, error) {
	f, err := b.at(p)
	if err != nil {
		return found{}, err
	}
	if f.Dir != dir {
		return found{}, api.ErrKind
	}
	return f, b.may(f.Thing, api.Read)
}

// write a file: a new one, or one that is there. ('/' is a directory as others are.)
func (b *Box) write(c api.Call) error {
	if !isMode(c.A) || len(c.Data) > api.MaxData {
		return api.ErrBound
	}
	f, err := b.reach(c.Path)
	if err != nil {
		return err
	}
	if !f.there {
		return b.create(f, api.Node{Kind: api.File, Mode: c.A, Data: c.Data})
	}
	if f.Dir {
		return api.ErrKind
	}
	if err := b.may(f.Thing, api.Write); err != nil {
		return err
	}
	return b.alter(f.names, func(n *api.Node) {
		n.Data = c.Data
		n.Mode = cred.Wipe(b.cred, n.Mode)
	})
}

func (b *Box) makeDir(c api.Call) error {
	if !isMode(c.A) {
		return api.ErrBound
	}
	f, err := b.reach(c.Path)
	if err != nil {
		return err
	}
	if f.there {
		return api.ErrExist
	}
	return b.create(f, api.Node{Kind: api.Dir, Mode: c.A})
}

// create what isn't there: n has its Kind, its Data, and the Mode that is asked for.
func (b *Box) create(f found, n api.Node) error {
	if err := b.may(f.dir, api.Write); err != nil {
		return err
	}
	n.User, n.Group = b.cred.User, b.cred.Group
	handsDown := f.dir.Mode&api.SetGroup != 0
	if handsDown {
		// The group of what isn't Mapped may be told as Overflow, an id that the maps may have, though it isn't the directory's.
		if !f.dir.Mapped {
			return api.ErrUnmapped
		}
		n.Group = f.dir.Group
	}
	n.Mode = cred.Keep(b.cred, n.Mode, n.Group)
	if handsDown && n.Kind == api.Dir {
		n.Mode |= api.SetGroup
	}
	n, err := copyup.Outside(b.maps, n)
	if err != nil {
		return err
	}
	return b.change(func(s *stack) error {
		if err := s.up(above(f.names)); err != nil {
			return err
		}
		// What the White hid must not be seen in a new directory.
		old, _ := tree.Find(s.upper(), f.names)
		n.Opaque = n.Kind == api.Dir && old.Kind == api.White
		return s.put(f.names, n)
	})
}

func (b *Box) discard(c api.Call) error {
	if isRoot(c.Path) {
		return api.ErrHeld
	}
	f, err := b.at(c.Path)
	if err != nil {
		return err
	}
	if err := b.take(f); err != nil {
		return err
	}
	if len(merge.List(b.layers, f.names)) > 0 {
		return api.ErrFilled
	}
	return b.change(func(s *stack) error { return s.remove(f.names) })
}

func (b *Box) mode(c api.Call) error {
	if !isMode(c.A) {
		return api.ErrBound
	}
	f, err := b.at(c.Path)
	if err != nil {
		return err
	}
	if err := b.owns(f.Thing); err != nil {
		return err
	}
	return b.alter(f.names, func(n *api.Node) { n.Mode = cred.Keep(b.cred, c.A, f.Group) })
}

func (b *Box) become(c api.Call) error {
	who, err := cred.Become(b.cred, c.A, c.B)
	if err != nil {
		return err
	}
	if _, err := copyup.Outside(b.maps, api.Node{User: who.User, Group: who.Group}); err != nil {
		return err
	}
	b.cred = who
	return nil
}

func isMode(x int) bool { return x >= 0 && x <= api.MaxMode }

func isRoot(p string) bool { return p == "/" }
