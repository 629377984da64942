package box_test

import (
	"fmt"
	"strings"
	"testing"

	"idshift/api"
	"idshift/box"
	"idshift/tree"
)

// die: numbers that look drawn, the same each time.
type die uint64

func (d *die) n(most int) int {
	*d = *d*6364136223846793005 + 1442695040888963407
	return int(uint64(*d>>33) % uint64(most))
}

// of these, one.
func of[T any](d *die, l ...T) T { return l[d.n(len(l))] }

func drawnName(d *die) string { return of(d, "a", "b", "c", "d", "efghijklmnop") }

// drawnTree: a lower, most of it of ids that the maps have.
func drawnTree(d *die, deep int) api.Node {
	n := api.Node{Kind: api.Dir, Mode: of(d, 0o755, 0o777, 0o777, 0o2777, 0o1777, d.n(4096)), User: d.n(4), Group: d.n(4)}
	if d.n(8) == 0 {
		n.User, n.Group = d.n(18), d.n(10)
	}
	for _, name := range []string{"t.a", "u.a", "u.b"} {
		if d.n(3) == 0 {
			n.Attrs = append(n.Attrs, api.Attr{Name: name, Value: strings.Repeat("v", d.n(4))})
		}
	}
	if deep == 0 || d.n(3) == 0 {
		n.Kind, n.Data = api.File, strings.Repeat("x", d.n(30))
		return n
	}
	for _, name := range []string{"a", "b", "c", "d", "efghijklmnop"} {
		if d.n(2) == 0 {
			n.Kids = append(n.Kids, api.Kid{Name: name, Node: drawnTree(d, deep-1)})
		}
	}
	return n
}

func drawnLowers(d *die) []api.Node {
	var l []api.Node
	for range d.n(4) {
		n := drawnTree(d, 3)
		n.Kind, n.Data = api.Dir, ""
		l = append(l, n)
	}
	return l
}

// drawnPath: most often one that is there, and perhaps a name more.
func drawnPath(d *die, b *box.Box) string {
	if d.n(60) == 0 {
		return of(d, "", "/", "/", "/a/", "a", "/a/b/c/d/a/b/c", "/A", "//")
	}
	var all []string
	each(b.Flat(), nil, func(names []string, _ api.Node) { all = append(all, strings.Join(append([]string{""}, names...), "/")) })
	p := of(d, all...)
	if d.n(3) == 0 || p == "" {
		p += "/" + drawnName(d)
	}
	if d.n(25) == 0 {
		p += "/" + drawnName(d)
	}
	return p
}

func drawnCall(d *die, b *box.Box) api.Call {
	c := api.Call{Op: of(d, 1, 2, 3, 4, 4, 5, 5, 5, 6, 6, 6, 7, 7, 7, 7, 8, 9, 9, 10, 10, 11, 11, 12, 13, 14), Path: drawnPath(d, b), Other: drawnPath(d, b)}
	c.Name = of(d, "u.a", "u.a", "u.b", "u.c", "u.d", "t.a", "t.a", "t.b", "x")
	c.Data = strings.Repeat("D", of(d, 0, 3, d.n(22), d.n(203)))
	c.A, c.B = of(d, 0o755, 0o755, 0o777, 0o777, 0o700, d.n(4096), d.n(4096), of(d, 0, -1, 4095, 4096)), d.n(10)-1
	if c.Op == api.CallOwn || c.Op == api.CallBe {
		c.A = of(d, d.n(17)-1, d.n(3), b.Cred().User, -1, 65535, 65536, -2)
		c.B = of(d, d.n(10)-1, d.n(3), b.Cred().Group, -1, 65535, 65536, -2)
	}
	if c.Op == api.CallMove && d.n(10) == 0 {
		c.Other = c.Path + of(d, "", "/a", "/b/c")
	}
	if d.n(100) == 0 {
		c.Op = of(d, 0, -1, 15)
	}
	return c
}

func drawnConfig(d *die) api.Config {
	c := config(who(d.n(3), d.n(3), of(d, 15, 15, 0, 0, d.n(16))), of(d, 64, 64, 9, 1+d.n(9)))
	if d.n(3) == 0 {
		c.Cred.Groups = []int{2, 3, 9}
	}
	return c
}

// agree: do a box and the second telling of it answer, and become, the same?
func agree(t *testing.T, b *box.Box, w *world, c api.Call) error {
	t.Helper()
	before := b.Bytes()
	got, err := b.Do(c)
	want, wantErr := w.do(c)
	if err != wantErr || !sameTold(got, want) {
		t.Fatalf("%q: %+v: %v, %v, not %v, %v", before, c, got, err, want, wantErr)
	}
	if err != nil && b.Bytes() != before {
		t.Fatalf("%q: %+v: %v, but it is %q then", before, c, err, b.Bytes())
	}
	if u, f := w.upper(w.root, false), w.root.flat(); !same(b.Upper(), u) || !same(b.Flat(), f) || !sameCred(b.Cred(), w.who) {
		t.Fatalf("%q: %+v: %v, %v, not %v, %v", before, c, b.Upper(), b.Cred(), u, w.who)
	}
	return err
}

// drawnBoxes: so many of them, with so many calls each.
func drawnBoxes(t *testing.T, seed die, boxes, calls int, config func(d *die) api.Config, f func(d *die, c api.Config, lowers []api.Node, b *box.Box) func()) {
	t.Helper()
	d := seed
	for range boxes {
		c, lowers := config(&d), drawnLowers(&d)
		b, err := box.New(c, lowers)
		if err != nil {
			t.Fatal(err)
		}
		call := f(&d, c, lowers, b)
		for range calls {
			call()
		}
	}
}

// outcomeOf an Op.
type outcomeOf struct {
	op  int
	err error
}

// Drawn boxes and calls; what came of them is counted, so that all that may be has been, and nothing else.
func TestB4AsOneTree(t *testing.T) {
	count := map[outcomeOf]int{}
	drawnBoxes(t, 10, 1200, 60, drawnConfig, func(d *die, c api.Config, lowers []api.Node, b *box.Box) func() {
		w := newWorld(c, lowers)
		return func() {
			x := drawnCall(d, b)
			count[outcomeOf{x.Op, agree(t, b, w, x)}]++
		}
	})
	for op, l := range possible() {
		for _, e := range append(l, nil) {
			if count[outcomeOf{op, e}] < 3 {
				t.Errorf("Op %d, %v: too few", op, e)
			}
			delete(count, outcomeOf{op, e})
		}
	}
	for o, n := range count {
		if _, is := possible()[o.op]; is || o.err != api.ErrShape {
			t.Errorf("Op %d, %v: %d times", o.op, o.err, n)
		}
	}
}

// W3: ErrQuota is told just if with more quota it would be too much; all else is as with more quota.
func TestW3JustTooMuch(t *testing.T) {
	refused := 0
	scant := func(d *die) api.Config {
		c := drawnConfig(d)
		c.Quota = 1 + d.n(5)
		return c
	}
	drawnBoxes(t, 11, 400, 60, scant, func(d *die, c api.Config, lowers []api.Node, b *box.Box) func() {
		more := c
		more.Quota = api.MaxQuota
		return func() {
			before := b.Bytes()
			twin, err := box.Load(more, lowers, before)
			if err != nil {
				t.Fatal(err)
			}
			x := drawnCall(d, b)
			got, err := b.Do(x)
			want, free := twin.Do(x)
			size := tree.Size(twin.Upper())
			if free == nil && size > c.Quota*api.Block {
				refused++
				if err != api.ErrQuota || !sameTold(got, api.Told{}) || b.Bytes() != before {
					t.Fatalf("%q: %+v: %v, but %d bytes", before, x, err, size)
				}
			} else if err != free || !sameTold(got, want) || b.Bytes() != twin.Bytes() {
				t.Fatalf("%q: %+v: %v, but %v with more quota", before, x, err, free)
			}
		}
	})
	if refused < 300 {
		t.Errorf("%d were refused", refused)
	}
}

// possible errors of each Op.
func possible() map[int][]error {
	at := []error{api.ErrName, api.ErrMany, api.ErrKind, api.ErrAccess, api.ErrNone}
	with := func(l ...error) []error { return append(l, at...) }
	return map[int][]error{
		api.CallStat: with(), api.CallList: with(), api.CallRead: with(),
		api.CallPut:    with(api.ErrBound, api.ErrUnmapped, api.ErrQuota),
		api.CallMake:   with(api.ErrBound, api.ErrExist, api.ErrUnmapped, api.ErrQuota),
		api.CallRemove: with(api.ErrHeld, api.ErrPerm, api.ErrFilled, api.ErrUnmapped, api.ErrQuota),
		api.CallMove:   with(api.ErrHeld, api.ErrPerm, api.ErrShape, api.ErrExist, api.ErrCross, api.ErrUnmapped, api.ErrQuota),
		api.CallMode:   with(api.ErrBound, api.ErrPerm, api.ErrUnmapped, api.ErrQuota),
		api.CallOwn:    with(api.ErrBound, api.ErrPerm, api.ErrUnmapped, api.ErrQuota),
		api.CallSet:    with(api.ErrBound, api.ErrPerm, api.ErrUnmapped, api.ErrQuota),
		api.CallDrop:   with(api.ErrPerm, api.ErrUnmapped, api.ErrQuota),
		api.CallGet:    with(api.ErrPerm),
		api.CallBe:     {api.ErrBound, api.ErrPerm, api.ErrUnmapped},
		api.CallCharge: {},
	}
}

// W2: whatever a box does, its upper is owned by ids that the maps have, and a White stands just where something would be seen else.
func TestW2ItsOwn(t *testing.T) {
	whites := 0
	all := func(d *die) api.Config { return config(of(d, admin(), admin(), who(1, 1, 0, 2)), 64) }
	drawnBoxes(t, 22, 500, 80, all, func(d *die, c api.Config, lowers []api.Node, b *box.Box) func() {
		return func() {
			x := drawnCall(d, b)
			if d.n(2) == 0 {
				x.Op = of(d, api.CallRemove, api.CallMove)
			}
			_, _ = b.Do(x)
			kept(t, scene{b, lowers}, fmt.Sprintf("%+v", x))
			each(b.Upper(), nil, func(_ []string, n api.Node) {
				if n.Kind == api.White {
					whites++
				}
			})
		}
	})
	if whites < 10000 {
		t.Errorf("%d Whites", whites)
	}
}

// What a box answers hangs on its config, its lowers and its calls alone: also if it was loaded in between.
func TestZ2TheSameAgain(t *testing.T) {
	drawnBoxes(t, 33, 200, 30, drawnConfig, func(d *die, c api.Config, lowers []api.Node, a *box.Box) func() {
		b := a.Copy()
		return func() {
			x := drawnCall(d, a)
			loaded, err := box.Load(c, lowers, b.Bytes())
			if err != nil {
				t.Fatal(err)
			}
			b = loaded
			one, err1 := a.Do(x)
			two, err2 := b.Do(x)
			if err1 != err2 || !sameTold(one, two) || a.Bytes() != b.Bytes() {
				t.Fatalf("%+v: %v, %v and %v, %v", x, one, err1, two, err2)
			}
		}
	})
}
