package box

import (
	"slices"

	"idshift/api"
	"idshift/copyup"
	"idshift/merge"
	"idshift/quota"
	"idshift/tree"
)

// stack of layers, the upper first, and the maps through which they are seen. None of its nodes is written into: a change lays another upper on top. So stacks may share lowers, and what they have been.
type stack struct {
	maps   api.Maps
	layers []api.Node
}

// apart: the same stack, which can be changed by itself.
func (s *stack) apart() stack {
	return stack{maps: s.maps, layers: slices.Clone(s.layers)}
}

// upper, in the stack's memory.
func (s *stack) upper() api.Node { return s.layers[0] }

// lay another upper on top, as it comes from a call, unless that has an error.
func (s *stack) lay(upper api.Node, err error) error {
	if err == nil {
		s.layers[0] = upper
	}
	return err
}

// up comes all along names.
func (s *stack) up(names []string) error {
	return s.lay(copyup.Up(s.layers, s.maps, names))
}

// put a node into the upper; without names it is the upper.
func (s *stack) put(names []string, n api.Node) error {
	if len(names) == 0 {
		return s.lay(n, nil)
	}
	return s.lay(tree.Put(s.upper(), names, n))
}

// remove what is seen at names. Where a lower would be seen then, a White hides it.
func (s *stack) remove(names []string) error {
	if err := s.up(above(names)); err != nil {
		return err
	}
	if merge.Below(s.layers, names) {
		return s.put(names, api.Node{Kind: api.White})
	}
	return s.lay(tree.Cut(s.upper(), names))
}

// change the upper by steps that are taken on a stack apart, so that nothing has changed if one of them fails, or if what they make may not be.
func (b *Box) change(steps func(s *stack) error) error {
	s := b.apart()
	if err := steps(&s); err != nil {
		return err
	}
	if err := tree.Check(s.upper(), true); err != nil {
		return err
	}
	if quota.Blocks(s.upper()) > b.quota {
		return api.ErrQuota
	}
	b.stack = s
	return nil
}

// alter what is seen at names: it comes up, and is made otherwise in the upper.
func (b *Box) alter(names []string, otherwise func(n *api.Node)) error {
	return b.change(func(s *stack) error {
		if err := s.up(names); err != nil {
			return err
		}
		n, _ := tree.Find(s.upper(), names)
		otherwise(&n)
		return s.put(names, n)
	})
}

// above: the names of the directory in which the last name stands.
func above(names []string) []string { return names[:len(names)-1] }
