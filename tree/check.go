package tree

import (
	"idshift/api"
	"idshift/attr"
	"idshift/path"
)

// Check a tree.
func Check(n api.Node, upper bool) error {
	if n.Kind != api.Dir {
		return api.ErrKind
	}
	c := checker{upper: upper}
	return c.node(n, 0)
}

// checker goes over a tree; seen: how many nodes were ahead. What has too many nodes or names is left at once, so that it ends whatever it is handed.
type checker struct {
	upper bool
	seen  int
}

// node with so many names, then its kids.
func (c *checker) node(n api.Node, names int) error {
	if c.seen == api.MaxNodes || names > api.MaxDepth {
		return api.ErrMany
	}
	c.seen++
	if err := bounds(n); err != nil {
		return err
	}
	if misshaped(n, c.upper, names == 0) {
		return api.ErrShape
	}
	return c.kids(n.Kids, names+1)
}

// kids with so many names, each one's name ahead of it.
func (c *checker) kids(l []api.Kid, names int) error {
	for i, k := range l {
		if !path.Name(k.Name) {
			return api.ErrName
		}
		if i > 0 && k.Name <= l[i-1].Name {
			return api.ErrShape
		}
		if err := c.node(k.Node, names); err != nil {
			return err
		}
	}
	return nil
}

// bounds of a node's own fields, each by itself.
func bounds(n api.Node) error {
	if n.Kind != api.File && n.Kind != api.Dir && n.Kind != api.White {
		return api.ErrShape
	}
	if beyond(n.Mode, api.MaxMode) || beyond(n.User, api.MaxID) || beyond(n.Group, api.MaxID) {
		return api.ErrBound
	}
	if err := attr.Check(n.Attrs); err != nil {
		return err
	}
	if len(n.Data) > api.MaxData {
		return api.ErrBound
	}
	return nil
}

// beyond: isn't it from 0 to most?
func beyond(x, most int) bool { return x < 0 || x > most }

// misshaped: does a node have what its kind, or its place, may not have? top: it is the tree itself.
func misshaped(n api.Node, upper, top bool) bool {
	white := n.Kind == api.White && (!upper || n.Mode != 0 || n.User != 0 || n.Group != 0 || len(n.Attrs) > 0)
	data := n.Kind != api.File && n.Data != ""
	filled := n.Kind != api.Dir && (len(n.Kids) > 0 || n.Opaque)
	opaque := n.Opaque && (top || !upper)
	return white || data || filled || opaque
}
