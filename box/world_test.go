package box_test

import (
	"maps"
	"slices"

	"idshift/api"
	"idshift/attr"
	"idshift/cred"
	"idshift/idmap"
	"idshift/path"
	"idshift/perm"
	"idshift/tree"
)

// A second telling of a box: one tree as it is seen, without layers. Each thing knows whether the upper has it, whether it was made in the box, and which names lowers have in it; of that the upper can be told.

// thing: a node as it is seen, ids as within.
type thing struct {
	api.Node
	up   bool            // the upper has it
	made bool            // it was made in the box: no lower has anything in it
	born map[string]bool // names that lowers have in it
	kids map[string]*thing
}

// world: a box in the second telling.
type world struct {
	maps  api.Maps
	who   api.Cred
	quota int
	root  *thing
}

func newWorld(c api.Config, lowers []api.Node) *world {
	w := &world{maps: c.Maps, who: c.Cred, quota: c.Quota, root: laid(lowers)}
	w.root.Node = api.Node{Kind: api.Dir, Mode: 0o755, User: c.Cred.User, Group: c.Cred.Group}
	w.root.up = true
	return w
}

// laid: lowers' nodes of one place, one on the other.
func laid(l []api.Node) *thing {
	t := &thing{born: map[string]bool{}, kids: map[string]*thing{}}
	if len(l) == 0 {
		return t
	}
	t.Node = l[0]
	t.Node.Kids = nil
	if l[0].Kind == api.File {
		return t
	}
	kids := map[string][]api.Node{}
	for _, n := range l {
		if n.Kind != api.Dir {
			break
		}
		for _, k := range n.Kids {
			kids[k.Name] = append(kids[k.Name], k.Node)
		}
	}
	for name, all := range kids {
		t.kids[name], t.born[name] = laid(all), true
	}
	return t
}

func (t *thing) clone() *thing {
	c := *t
	c.kids = map[string]*thing{}
	for name, k := range t.kids {
		c.kids[name] = k.clone()
	}
	return &c
}

// flat: all that is seen.
func (t *thing) flat() api.Node {
	n := t.Node
	for _, name := range slices.Sorted(maps.Keys(t.kids)) {
		n.Kids = append(n.Kids, api.Kid{Name: name, Node: t.kids[name].flat()})
	}
	return n
}

// upper: what it has here; born: a lower has something here.
func (w *world) upper(t *thing, born bool) api.Node {
	n := t.Node
	n.User, _ = idmap.ToHost(w.maps.Users, n.User)
	n.Group, _ = idmap.ToHost(w.maps.Groups, n.Group)
	n.Opaque = t.made && born
	all := maps.Clone(t.born)
	if all == nil {
		all = map[string]bool{}
	}
	for name, k := range t.kids {
		all[name] = k.up
	}
	for _, name := range slices.Sorted(maps.Keys(all)) {
		k := t.kids[name]
		switch {
		case k == nil:
			n.Kids = append(n.Kids, api.Kid{Name: name, Node: api.Node{Kind: api.White}})
		case k.up:
			n.Kids = append(n.Kids, api.Kid{Name: name, Node: w.upper(k, t.born[name])})
		}
	}
	return n
}

func (w *world) mapped(user, group int) (bool, bool) {
	_, u := idmap.ToHost(w.maps.Users, user)
	_, g := idmap.ToHost(w.maps.Groups, group)
	return u, g
}

// seen: as rights see it.
func (w *world) seen(t *thing) api.Thing {
	u, g := w.mapped(t.User, t.Group)
	s := api.Thing{Dir: t.Kind == api.Dir, Mode: t.Mode, User: t.User, Group: t.Group, Mapped: u && g}
	if !u {
		s.User = api.Overflow
	}
	if !g {
		s.Group = api.Overflow
	}
	return s
}

func (w *world) may(t *thing, want int) bool { return perm.May(w.who, w.seen(t), want) }

// walk: all things along names; the last one is nil, if nothing is there.
func (w *world) walk(names []string) ([]*thing, error) {
	way := []*thing{w.root}
	for i, name := range names {
		at := way[i]
		if at.Kind == api.File {
			return nil, api.ErrKind
		}
		if !w.may(at, api.Go) {
			return nil, api.ErrAccess
		}
		if at.kids[name] == nil && i+1 < len(names) {
			return nil, api.ErrNone
		}
		way = append(way, at.kids[name])
	}
	return way, nil
}

// to a path: its names, and the walk along them.
func (w *world) to(p string) ([]string, []*thing, error) {
	names, err := path.Split(p)
	if err != nil {
		return nil, nil, err
	}
	way, err := w.walk(names)
	return names, way, err
}

// at a path: what is there.
func (w *world) at(p string) ([]*thing, *thing, error) {
	_, way, err := w.to(p)
	if err != nil {
		return nil, nil, err
	}
	if end := way[len(way)-1]; end != nil {
		return way, end, nil
	}
	return nil, nil, api.ErrNone
}

// raise all of a way.
func (w *world) raise(way []*thing) error {
	for _, t := range way {
		if u, g := w.mapped(t.User, t.Group); !u || !g {
			return api.ErrUnmapped
		}
		t.up = true
	}
	return nil
}

// grows: may it be?
func (w *world) grows() error {
	upper := w.upper(w.root, false)
	nodes := 0
	each(upper, nil, func([]string, api.Node) { nodes++ })
	if nodes > api.MaxNodes {
		return api.ErrMany
	}
	if tree.Size(upper) > w.quota*api.Block {
		return api.ErrQuota
	}
	return nil
}

// do a call on a copy, which takes the place of the world if nothing is wrong.
func (w *world) do(c api.Call) (api.Told, error) {
	next := *w
	next.root = w.root.clone()
	told, err := next.call(c)
	if err != nil {
		return api.Told{}, err
	}
	*w = next
	return told, nil
}

func (w *world) call(c api.Call) (told api.Told, err error) {
	switch c.Op {
	case api.CallStat, api.CallList, api.CallRead:
		return w.ask(c)
	case api.CallGet, api.CallSet, api.CallDrop:
		return w.attrs(c)
	case api.CallPut, api.CallMake:
		return told, w.create(c)
	case api.CallRemove:
		return told, w.remove(c)
	case api.CallMove:
		return told, w.move(c)
	case api.CallMode, api.CallOwn:
		return told, w.give(c)
	case api.CallBe:
		next, err := cred.Become(w.who, c.A, c.B)
		if err != nil {
			return told, err
		}
		if u, g := w.mapped(c.A, c.B); !u || !g {
			return told, api.ErrUnmapped
		}
		w.who = next
		return told, nil
	case api.CallCharge:
		return api.Told{Size: (tree.Size(w.upper(w.root, false)) + 63) / 64}, nil
	}
	return told, api.ErrShape
}

func (w *world) ask(c api.Call) (told api.Told, err error) {
	_, t, err := w.at(c.Path)
	if err != nil {
		return told, err
	}
	if c.Op == api.CallStat {
		s := w.seen(t)
		return api.Told{Kind: t.Kind, Mode: s.Mode, User: s.User, Group: s.Group, Size: len(t.Data) + len(t.kids)}, nil
	}
	if (t.Kind == api.Dir) != (c.Op == api.CallList) {
		return told, api.ErrKind
	}
	if !w.may(t, api.Read) {
		return told, api.ErrAccess
	}
	return api.Told{Names: slices.Sorted(maps.Keys(t.kids)), Data: t.Data}, nil
}

func (w *world) attrs(c api.Call) (told api.Told, err error) {
	class := attr.Class(c.Name)
	if class == 0 {
		return told, api.ErrName
	}
	if c.Op == api.CallSet && len(c.Data) > api.MaxValue {
		return told, api.ErrBound
	}
	way, t, err := w.at(c.Path)
	if err != nil {
		return told, err
	}
	want := api.Write
	if c.Op == api.CallGet {
		want = api.Read
	}
	if class == 1 && !w.may(t, want) {
		return told, api.ErrAccess
	}
	if class == 2 && !perm.Owns(w.who, w.seen(t)) {
		return told, api.ErrPerm
	}
	switch c.Op {
	case api.CallGet:
		told.Data, err = attr.Get(t.Attrs, c.Name)
		return told, err
	case api.CallSet:
		t.Attrs, err = attr.Set(t.Attrs, c.Name, c.Data)
	case api.CallDrop:
		t.Attrs, err = attr.Drop(t.Attrs, c.Name)
	}
	if err != nil {
		return told, err
	}
	return told, w.altered(way)
}

// altered: what a way leads to.
func (w *world) altered(way []*thing) error {
	if err := w.raise(way); err != nil {
		return err
	}
	return w.grows()
}

func (w *world) create(c api.Call) error {
	put := c.Op == api.CallPut
	if c.A < 0 || c.A > api.MaxMode || put && len(c.Data) > api.MaxData {
		return api.ErrBound
	}
	if put && c.Path == "/" {
		return api.ErrKind
	}
	names, way, err := w.to(c.Path)
	if err != nil {
		return err
	}
	last := len(way) - 1
	if t := way[last]; t != nil {
		switch {
		case !put:
			return api.ErrExist
		case t.Kind == api.Dir:
			return api.ErrKind
		case !w.may(t, api.Write):
			return api.ErrAccess
		}
		t.Data, t.Mode = c.Data, cred.Wipe(w.who, t.Mode)
		return w.altered(way)
	}
	dir := way[last-1]
	if !w.may(dir, api.Write) {
		return api.ErrAccess
	}
	t := &thing{Node: api.Node{Kind: api.File, User: w.who.User, Group: w.who.Group, Data: c.Data}, kids: map[string]*thing{}, up: true}
	if !put {
		t.Kind, t.Data, t.made = api.Dir, "", true
	}
	set := dir.Mode & api.SetGroup
	if set != 0 {
		t.Group = dir.Group
	}
	t.Mode = cred.Keep(w.who, c.A, t.Group)
	if !put {
		t.Mode |= set
	}
	if err := w.raise(way[:last]); err != nil {
		return err
	}
	dir.kids[names[len(names)-1]] = t
	return w.grows()
}

// taken: may one take what a way leads to?
func (w *world) taken(way []*thing) error {
	dir, t := way[len(way)-2], way[len(way)-1]
	if !w.may(dir, api.Write) {
		return api.ErrAccess
	}
	if !perm.Takes(w.who, w.seen(dir), w.seen(t)) {
		return api.ErrPerm
	}
	return nil
}

func (w *world) remove(c api.Call) error {
	if c.Path == "/" {
		return api.ErrHeld
	}
	way, t, err := w.at(c.Path)
	if err != nil {
		return err
	}
	if err := w.taken(way); err != nil {
		return err
	}
	if len(t.kids) > 0 {
		return api.ErrFilled
	}
	return w.gone(way)
}

// gone: what a way leads to, whatever its name.
func (w *world) gone(way []*thing) error {
	last := len(way) - 1
	if err := w.raise(way[:last]); err != nil {
		return err
	}
	maps.DeleteFunc(way[last-1].kids, func(_ string, t *thing) bool { return t == way[last] })
	return w.grows()
}

func (w *world) give(c api.Call) error {
	low, high := 0, api.MaxMode
	if c.Op == api.CallOwn {
		low, high = -1, api.MaxID
	}
	if c.A < low || c.A > high || c.Op == api.CallOwn && (c.B < low || c.B > high) {
		return api.ErrBound
	}
	way, t, err := w.at(c.Path)
	if err != nil {
		return err
	}
	s := w.seen(t)
	if c.Op == api.CallMode {
		if !perm.Owns(w.who, s) {
			return api.ErrPerm
		}
		t.Mode = cred.Keep(w.who, c.A, t.Group)
		return w.altered(way)
	}
	if c.A == -1 && c.B == -1 {
		return nil
	}
	keepsUser, keepsGroup := c.A == -1 || c.A == s.User, c.B == -1 || c.B == s.Group
	if !s.Mapped || !cred.Can(w.who, api.CapChown) && (s.User != w.who.User || !keepsUser || !keepsGroup && !cred.Has(w.who, c.B)) {
		return api.ErrPerm
	}
	if u, g := w.mapped(c.A, c.B); c.A != -1 && !u || c.B != -1 && !g {
		return api.ErrUnmapped
	}
	if c.A != -1 {
		t.User = c.A
	}
	if c.B != -1 {
		t.Group = c.B
	}
	t.Mode = cred.Wipe(w.who, t.Mode)
	// What it was of must have come up, too; but that is asked above.
	return w.altered(way)
}

func (w *world) move(c api.Call) error {
	if c.Path == "/" || c.Other == "/" {
		return api.ErrHeld
	}
	names, err := path.Split(c.Path)
	if err != nil {
		return err
	}
	others, err := path.Split(c.Other)
	if err != nil {
		return err
	}
	way, t, err := w.at(c.Path)
	if err != nil {
		return err
	}
	if err := w.taken(way); err != nil {
		return err
	}
	there, err := w.walk(others)
	if err != nil || c.Path == c.Other {
		return err
	}
	if err := w.movable(names, others, t, there); err != nil {
		return err
	}
	last := len(there) - 1
	if err := w.raise(way); err != nil {
		return err
	}
	if err := w.raise(there[:last]); err != nil {
		return err
	}
	delete(way[len(way)-2].kids, names[len(names)-1])
	there[last-1].kids[others[len(others)-1]] = t
	return w.grows()
}

func (w *world) movable(names, others []string, t *thing, there []*thing) error {
	if len(others) > len(names) && slices.Equal(names, others[:len(names)]) {
		return api.ErrShape
	}
	last := len(there) - 1
	if !w.may(there[last-1], api.Write) {
		return api.ErrAccess
	}
	if old := there[last]; old != nil {
		if t.Kind == api.Dir || old.Kind == api.Dir {
			return api.ErrExist
		}
		if err := w.taken(there); err != nil {
			return err
		}
	}
	if t.Kind == api.Dir && !t.made {
		return api.ErrCross
	}
	if len(others)+deep(t) > api.MaxDepth {
		return api.ErrMany
	}
	return nil
}

func deep(t *thing) int {
	most := 0
	for _, k := range t.kids {
		most = max(most, 1+deep(k))
	}
	return most
}
