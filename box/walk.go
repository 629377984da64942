package box

import (
	"idshift/api"
	"idshift/copyup"
	"idshift/merge"
	"idshift/path"
	"idshift/perm"
)

// found: what a walk has found at its names: the Thing that rights see, and that of its directory ('/' has none); the node, without Kids, and the layer that has it. Where nothing is seen it isn't there, and has a directory alone.
type found struct {
	api.Thing
	dir   api.Thing
	names []string
	there bool
	node  api.Node
	layer int
}

// walk along names: it ends at something, or at a last name at which nothing is seen. ('/' is always seen: an upper is a directory.)
func (b *Box) walk(names []string) (found, error) {
	nodes, layers := merge.Along(b.layers, names)
	at := b.see(nodes[0], layers[0])
	for i := range names {
		if err := b.pass(at.Thing); err != nil {
			return found{}, err
		}
		var next found
		if behind := i + 1; behind < len(nodes) {
			next = b.see(nodes[behind], layers[behind])
		} else if behind < len(names) {
			return found{}, api.ErrNone
		}
		next.dir = at.Thing
		at = next
	}
	at.names = names
	return at, nil
}

// see a node of a layer, wherever it stands.
func (b *Box) see(n api.Node, layer int) found {
	return found{Thing: copyup.Seen(b.maps, n, layer == 0), there: true, node: n, layer: layer}
}

// pass through what is seen on the way.
func (b *Box) pass(t api.Thing) error {
	if !t.Dir {
		return api.ErrKind
	}
	return b.may(t, api.Go)
}

// reach the end of a path, whether something is seen there or not.
func (b *Box) reach(p string) (found, error) {
	names, err := path.Split(p)
	if err != nil {
		return found{}, err
	}
	return b.walk(names)
}

// at a path: what stands there.
func (b *Box) at(p string) (found, error) { return standing(b.reach(p)) }

// standing at the end of a walk, as it comes from a call: something, or it is ErrNone.
func standing(f found, err error) (found, error) {
	if err == nil && !f.there {
		return found{}, api.ErrNone
	}
	return f, err
}

// may one? If not, it is ErrAccess.
func (b *Box) may(t api.Thing, want int) error {
	if !perm.May(b.cred, t, want) {
		return api.ErrAccess
	}
	return nil
}

// owns: is it one's own? If not, it is ErrPerm.
func (b *Box) owns(t api.Thing) error {
	if !perm.Owns(b.cred, t) {
		return api.ErrPerm
	}
	return nil
}

// take: may one take it out of its directory?
func (b *Box) take(f found) error {
	if err := b.may(f.dir, api.Write); err != nil {
		return err
	}
	if !perm.Takes(b.cred, f.dir, f.Thing) {
		return api.ErrPerm
	}
	return nil
}
