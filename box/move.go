package box

import (
	"slices"

	"idshift/api"
	"idshift/merge"
	"idshift/path"
	"idshift/tree"
)

// move a thing to another path.
func (b *Box) move(c api.Call) error {
	from, to, err := b.ends(c)
	if err != nil || slices.Equal(from.names, to.names) {
		return err
	}
	if err := b.mayMove(from, to); err != nil {
		return err
	}
	return b.change(func(s *stack) error {
		if err := s.up(from.names); err != nil {
			return err
		}
		if err := s.up(above(to.names)); err != nil {
			return err
		}
		n, _ := tree.Find(s.upper(), from.names)
		if err := s.remove(from.names); err != nil {
			return err
		}
		n.Opaque = from.Dir && merge.Below(s.layers, to.names)
		return s.put(to.names, n)
	})
}

// ends of a move: what is moved, which may be taken, and where it goes.
func (b *Box) ends(c api.Call) (from, to found, err error) {
	if isRoot(c.Path) || isRoot(c.Other) {
		return found{}, found{}, api.ErrHeld
	}
	names, err := path.Split(c.Path)
	if err != nil {
		return found{}, found{}, err
	}
	others, err := path.Split(c.Other)
	if err != nil {
		return found{}, found{}, err
	}
	if from, err = standing(b.walk(names)); err != nil {
		return found{}, found{}, err
	}
	if err = b.take(from); err != nil {
		return found{}, found{}, err
	}
	to, err = b.walk(others)
	return from, to, err
}

// mayMove: may it go there, which is another place?
func (b *Box) mayMove(from, to found) error {
	if path.Under(from.names, to.names) {
		return api.ErrShape
	}
	if err := b.may(to.dir, api.Write); err != nil {
		return err
	}
	if to.there {
		if from.Dir || to.Dir {
			return api.ErrExist
		}
		if err := b.take(to); err != nil {
			return err
		}
	}
	if from.Dir && !b.alone(from) {
		return api.ErrCross
	}
	// Only what the upper has can have kids here: a lower's directory is not moved.
	n, _ := tree.Find(b.upper(), from.names)
	if len(to.names)+depth(n) > api.MaxDepth {
		return api.ErrMany
	}
	return nil
}

// alone: is a directory the upper's alone?
func (b *Box) alone(f found) bool {
	return f.layer == 0 && (f.node.Opaque || !merge.Below(b.layers, f.names))
}

// depth of a node: how many names lead from it to the furthest one. It is an upper's, so there are few.
func depth(n api.Node) int {
	most := 0
	for _, k := range n.Kids {
		most = max(most, 1+depth(k.Node))
	}
	return most
}
