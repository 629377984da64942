package host_test

import (
	"fmt"
	"slices"
	"strings"
	"testing"

	"idshift/api"
	"idshift/box"
	"idshift/disk"
	"idshift/host"
	"idshift/quota"
	"idshift/tree"
)

// world: a second telling of H1 to H4, without a disk: boxes that stand for themselves, lowers, and a sum of what they take.
type world struct {
	room   int
	lowers map[int]api.Node
	boxes  map[int]tenant
}

// tenant: a box, its quota, and its lowers by their numbers.
type tenant struct {
	*box.Box
	quota  int
	lowers []int
}

func newWorld(room int) *world {
	return &world{room: room, lowers: map[int]api.Node{}, boxes: map[int]tenant{}}
}

// copy of a world, which goes on apart.
func (w *world) copy() *world {
	c := newWorld(w.room)
	for id, n := range w.lowers {
		c.lowers[id] = n
	}
	for id, b := range w.boxes {
		b.Box = b.Copy()
		c.boxes[id] = b
	}
	return c
}

func (w *world) left() int {
	left := w.room
	for _, n := range w.lowers {
		left -= quota.Blocks(n)
	}
	for _, b := range w.boxes {
		left -= 2 * (b.quota + 1)
	}
	return left
}

// free: the lowest number that a map has not, of so many.
func free[T any](m map[int]T, most int) (int, error) {
	for id := range most {
		if _, is := m[id]; !is {
			return id, nil
		}
	}
	return 0, api.ErrMany
}

func keys[T any](m map[int]T) []int {
	var l []int
	for id := range m {
		l = append(l, id)
	}
	slices.Sort(l)
	return l
}

func (w *world) addLower(n api.Node) (int, error) {
	if err := tree.Check(n, false); err != nil {
		return 0, err
	}
	id, err := free(w.lowers, api.MaxStore)
	if err != nil {
		return 0, err
	}
	if quota.Blocks(n) > w.left() {
		return 0, api.ErrNoRoom
	}
	w.lowers[id] = n
	return id, nil
}

func (w *world) addBox(c api.Config) (int, error) {
	var under []api.Node
	for _, id := range c.Lowers {
		n, is := w.lowers[id]
		if !is {
			return 0, api.ErrNone
		}
		under = append(under, n)
	}
	b, err := box.New(c, under)
	if err != nil {
		return 0, err
	}
	id, err := free(w.boxes, api.MaxBoxes)
	if err != nil {
		return 0, err
	}
	if 2*(c.Quota+1) > w.left() {
		return 0, api.ErrNoRoom
	}
	w.boxes[id] = tenant{b, c.Quota, c.Lowers}
	return id, nil
}

func (w *world) dropLower(id int) error {
	if _, is := w.lowers[id]; !is {
		return api.ErrNone
	}
	for _, b := range w.boxes {
		if slices.Contains(b.lowers, id) {
			return api.ErrHeld
		}
	}
	delete(w.lowers, id)
	return nil
}

// step: one call of a host.
type step struct {
	kind, id int
	node     api.Node
	config   api.Config
	call     api.Call
}

const (
	stepDo = iota
	stepAddLower
	stepSeal
	stepDropLower
	stepAddBox
	stepDropBox
)

// outcome of a step.
type outcome struct {
	n    int
	told api.Told
	err  error
}

func (s step) ofHost(h *host.Host) (o outcome) {
	switch s.kind {
	case stepDo:
		o.told, o.err = h.Do(s.id, s.call)
	case stepAddLower:
		o.n, o.err = h.AddLower(s.node)
	case stepSeal:
		o.n, o.err = h.Seal(s.id)
	case stepDropLower:
		o.err = h.DropLower(s.id)
	case stepAddBox:
		o.n, o.err = h.AddBox(s.config)
	case stepDropBox:
		o.err = h.DropBox(s.id)
	}
	return o
}

func (s step) ofWorld(w *world) (o outcome) {
	b, is := w.boxes[s.id]
	if !is && (s.kind == stepDo || s.kind == stepSeal || s.kind == stepDropBox) {
		return outcome{err: api.ErrNone}
	}
	switch s.kind {
	case stepDo:
		o.told, o.err = b.Do(s.call)
	case stepAddLower:
		o.n, o.err = w.addLower(s.node)
	case stepSeal:
		o.n, o.err = w.addLower(b.Flat())
	case stepDropLower:
		o.err = w.dropLower(s.id)
	case stepAddBox:
		o.n, o.err = w.addBox(s.config)
	case stepDropBox:
		delete(w.boxes, s.id)
	}
	return o
}

// drawnTree: a lower, most often small.
func drawnTree(d *die, deep int) api.Node {
	n := api.Node{Kind: api.Dir, Mode: of(d, 493, 511, 511, d.n(4096)), User: d.n(4), Group: d.n(4)}
	if d.n(3) == 0 {
		n.Attrs = []api.Attr{{Name: "t.a", Value: "1"}, {Name: "u.a", Value: strings.Repeat("v", d.n(20))}}[d.n(2):]
	}
	if deep == 0 || deep < 3 && d.n(2) == 0 {
		n.Kind, n.Data = api.File, strings.Repeat("x", d.n(of(d, 9, 201)))
		return n
	}
	for _, name := range []string{"a", "b", "c", "d"} {
		if d.n(2) == 0 {
			n.Kids = append(n.Kids, api.Kid{Name: name, Node: drawnTree(d, deep-1)})
		}
	}
	if d.n(60) == 0 {
		n.Mode = -1
	}
	return n
}

func drawnConfig(d *die) api.Config {
	c := config(of(d, 1, 2, 3, 1+d.n(6), 1+d.n(30), d.n(67)-1))
	c.Cred.User, c.Cred.Caps = d.n(3), of(d, 15, 15, 15, 0, d.n(16))
	if d.n(4) == 0 {
		c.Cred.Groups = []int{1, 3}
	}
	if d.n(20) == 0 {
		c.Cred.User = 10
	}
	c.Maps.Users[0].Out += 100 * d.n(3)
	for range d.n(of(d, 1, 3, 4, 5)) {
		c.Lowers = append(c.Lowers, d.n(of(d, 3, 3, 6)))
	}
	return c
}

func drawnCall(d *die) api.Call {
	path := func() string {
		return of(d, "/a", "/b", "/c", "/a/a", "/a/b", "/b/a", "/d/c", "/d", "/a/b/c", "/", "//")
	}
	c := api.Call{Op: of(d, 1, 2, 3, 4, 4, 4, 4, 5, 5, 6, 6, 7, 7, 8, 9, 10, 11, 12, 13, 14, 15), Path: path(), Other: path(), Name: of(d, "u.a", "t.a", "x"), A: of(d, 511, 493, d.n(4097)), B: d.n(9)}
	c.Data = strings.Repeat("d", d.n(of(d, 5, 21, 202)))
	if c.Op == api.CallOwn || c.Op == api.CallBe {
		c.A = d.n(12) - 1
	}
	return c
}

func drawnStep(d *die) step {
	s := step{id: d.n(of(d, 3, 3, 7)) - d.n(2)*d.n(2), node: drawnTree(d, 3), config: drawnConfig(d), call: drawnCall(d)}
	s.kind = of(d, stepDo, stepDo, stepDo, stepDo, stepDo, stepDo, stepAddLower, stepAddLower, stepSeal, stepDropLower, stepAddBox, stepAddBox, stepAddBox, stepDropBox)
	return s
}

// agrees: does a host stand as its second telling? If it doesn't, why?
func (w *world) agrees(h *host.Host) string {
	if !slices.Equal(h.Lowers(), keys(w.lowers)) || !slices.Equal(h.Boxes(), keys(w.boxes)) || h.Left() != w.left() {
		return fmt.Sprintf("lowers %v, boxes %v, %d left, not %v, %v, %d", h.Lowers(), h.Boxes(), h.Left(), keys(w.lowers), keys(w.boxes), w.left())
	}
	for id, want := range w.lowers {
		if n, err := h.Lower(id); err != nil || !sameNode(n, want) {
			return fmt.Sprintf("lower %d: %v, %v, not %v", id, n, err, want)
		}
	}
	for id, b := range w.boxes {
		upper, err := h.Upper(id)
		flat, err1 := h.Flat(id)
		who, err2 := h.Cred(id)
		if err != nil || err1 != nil || err2 != nil || !sameNode(upper, b.Upper()) || !sameNode(flat, b.Flat()) || !sameCred(who, b.Cred()) {
			return fmt.Sprintf("box %d: %v, %v, not %v, %v", id, upper, who, b.Upper(), b.Cred())
		}
	}
	return ""
}

// pair of a host and its second telling.
type pair struct {
	d *disk.Disk
	h *host.Host
	w *world
}

// kindOf an outcome.
type kindOf struct {
	kind int
	err  error
}

// do a step on both: they answer, and stand, the same.
func (p *pair) do(t *testing.T, s step, count map[kindOf]int) {
	t.Helper()
	before := p.d.Bytes()
	got, want := s.ofHost(p.h), s.ofWorld(p.w)
	if got.n != want.n || got.err != want.err || !sameTold(got.told, want.told) {
		t.Fatalf("%+v: %v, not %v", s, got, want)
	}
	if got.err != nil && p.d.Bytes() != before {
		t.Fatalf("%+v: %v, but the disk is another one", s, got.err)
	}
	if why := p.w.agrees(p.h); why != "" {
		t.Fatalf("%+v: %s", s, why)
	}
	count[kindOf{s.kind, got.err}]++
}

// dark step: power fails in it, perhaps. What is found then is the world as it was, or as it is behind.
func (p *pair) dark(t *testing.T, s step, bytes int) {
	t.Helper()
	next := p.w.copy()
	want := s.ofWorld(next)
	done(t, p.d.Cut(bytes))
	if got := s.ofHost(p.h); got.err != api.ErrOff && got.err != want.err || (got.err == api.ErrOff) == p.d.Power() {
		t.Fatalf("%+v, a cut behind %d bytes: %v", s, bytes, got)
	}
	off := !p.d.Power()
	p.d.On()
	if off {
		p.h = open(t, p.d)
	}
	if why := next.agrees(p.h); why == "" {
		p.w = next
	} else if was := p.w.agrees(p.h); was != "" || !off {
		t.Fatalf("%+v, a cut behind %d bytes: %s; %s", s, bytes, why, was)
	}
}

// Drawn calls, on disks of all sizes; hosts are opened anew, and power fails, in between.
func TestH1ToH4Drawn(t *testing.T) {
	x := die(124)
	count := map[kindOf]int{}
	for range 300 {
		room := of(&x, 20, 40, 70, 70, 150, 1800)
		d, h := start(t, room)
		p := pair{d, h, newWorld(room)}
		for range 80 {
			switch s := drawnStep(&x); x.n(8) {
			case 0:
				p.dark(t, s, x.n(of(&x, 3, 100, 300, 800)))
			case 1:
				p.h = open(t, p.d)
				p.do(t, s, count)
			default:
				p.do(t, s, count)
			}
		}
	}
	for kind, l := range [][]error{
		stepDo:        {nil, api.ErrNone, api.ErrQuota, api.ErrAccess, api.ErrShape, api.ErrUnmapped},
		stepAddLower:  {nil, api.ErrBound, api.ErrMany, api.ErrNoRoom},
		stepSeal:      {nil, api.ErrNone, api.ErrMany, api.ErrNoRoom},
		stepDropLower: {nil, api.ErrNone, api.ErrHeld},
		stepAddBox:    {nil, api.ErrNone, api.ErrBound, api.ErrMany, api.ErrUnmapped, api.ErrNoRoom},
		stepDropBox:   {nil, api.ErrNone},
	} {
		for _, err := range l {
			if count[kindOf{kind, err}] < 10 {
				t.Errorf("step %d, %v: %d times", kind, err, count[kindOf{kind, err}])
			}
		}
	}
}
