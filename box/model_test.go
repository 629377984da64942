package box_test

import (
	"fmt"
	"slices"
	"strings"
	"testing"

	"idshift/api"
	"idshift/box"
	"idshift/merge"
	"idshift/tree"
)

// die: numbers that look drawn, the same each time.
type die uint64

func (d *die) n(most int) int {
	*d = *d*6364136223846793005 + 1442695040888963407
	return int(uint64(*d>>33) % uint64(most))
}

// of these, one.
func of[T any](d *die, l ...T) T { return l[d.n(len(l))] }

func drawnName(d *die) string { return of(d, "a", "b", "c", "d", "efghijklmnop") }

// drawnTree: a lower, most of it of ids that the maps have.
func drawnTree(d *die, deep int) api.Node {
	n := api.Node{Kind: api.Dir, Mode: of(d, 0o755, 0o777, 0o777, 0o2777, 0o1777, d.n(4096)), User: d.n(4), Group: d.n(4)}
	if d.n(8) == 0 {
		n.User, n.Group = d.n(18), d.n(10)
	}
	for _, name := range []string{"t.a", "u.a", "u.b"} {
		if d.n(3) == 0 {
			n.Attrs = append(n.Attrs, api.Attr{Name: name, Value: strings.Repeat("v", d.n(4))})
		}
	}
	if deep == 0 || d.n(3) == 0 {
		n.Kind, n.Data = api.File, strings.Repeat("x", d.n(30))
		return n
	}
	for _, name := range []string{"a", "b", "c", "d", "efghijklmnop"} {
		if d.n(2) == 0 {
			n.Kids = append(n.Kids, api.Kid{Name: name, Node: drawnTree(d, deep-1)})
		}
	}
	return n
}

func drawnLowers(d *die) []api.Node {
	var l []api.Node
	for range d.n(4) {
		n := drawnTree(d, 3)
		n.Kind, n.Data = api.Dir, ""
		l = append(l, n)
	}
	return l
}

// drawnPath: most often one that is there, and perhaps a name more.
func drawnPath(d *die, b *box.Box) string {
	if d.n(60) == 0 {
		return of(d, "", "/", "/", "/a/", "a", "/a/b/c/d/a/b/c", "/A", "//")
	}
	var all []string
	each(b.Flat(), nil, func(names []string, _ api.Node) { all = append(all, strings.Join(append([]string{""}, names...), "/")) })
	p := of(d, all...)
	if d.n(3) == 0 || p == "" {
		p += "/" + drawnName(d)
	}
	if d.n(25) == 0 {
		p += "/" + drawnName(d)
	}
	return p
}

func drawnCall(d *die, b *box.Box) api.Call {
	c := api.Call{Op: of(d, 1, 2, 3, 4, 4, 5, 5, 5, 6, 6, 6, 7, 7, 7, 7, 8, 9, 9, 10, 10, 11, 11, 12, 13, 14), Path: drawnPath(d, b), Other: drawnPath(d, b)}
	c.Name = of(d, "u.a", "u.a", "u.b", "u.c", "u.d", "t.a", "t.a", "t.b", "x")
	c.Data = strings.Repeat("D", of(d, 0, 3, d.n(22), d.n(203)))
	c.A, c.B = of(d, 0o755, 0o755, 0o777, 0o777, 0o700, d.n(4096), d.n(4096), of(d, 0, -1, 4095, 4096)), d.n(10)-1
	if c.Op == api.CallOwn || c.Op == api.CallBe {
		c.A = of(d, d.n(17)-1, d.n(3), b.Cred().User, -1, 65535, 65536, -2)
		c.B = of(d, d.n(10)-1, d.n(3), b.Cred().Group, -1, 65535, 65536, -2)
	}
	if c.Op == api.CallMove && d.n(10) == 0 {
		c.Other = c.Path + of(d, "", "/a", "/b/c")
	}
	if d.n(100) == 0 {
		c.Op = of(d, 0, -1, 15)
	}
	return c
}

func drawnConfig(d *die) api.Config {
	c := config(who(d.n(3), d.n(3), of(d, 15, 15, 0, 0, d.n(16))), of(d, 64, 64, 9, 1+d.n(9)))
	if d.n(3) == 0 {
		c.Cred.Groups = []int{2, 3, 9}
	}
	return c
}

// agree: do a box and the second telling of it answer, and become, the same?
func agree(t *testing.T, b *box.Box, w *world, c api.Call) error {
	t.Helper()
	before := b.Bytes()
	got, err := b.Do(c)
	want, wantErr := w.do(c)
	if err != wantErr || !sameTold(got, want) {
		t.Fatalf("%q: %+v: %v, %v, not %v, %v", before, c, got, err, want, wantErr)
	}
	if err != nil && b.Bytes() != before {
		t.Fatalf("%q: %+v: %v, but it is %q then", before, c, err, b.Bytes())
	}
	if u, f := w.upper(w.root, false), w.root.flat(); !same(b.Upper(), u) || !same(b.Flat(), f) || !sameCred(b.Cred(), w.who) {
		t.Fatalf("%q: %+v: %v, %v, not %v, %v", before, c, b.Upper(), b.Cred(), u, w.who)
	}
	return err
}

// Drawn boxes and calls; what is to be seen of them is counted, so that all of it is.
func TestB4AsOneTree(t *testing.T) {
	d := die(10)
	count := map[string]int{}
	for range 1200 {
		c, lowers := drawnConfig(&d), drawnLowers(&d)
		b, err := box.New(c, lowers)
		if err != nil {
			t.Fatal(err)
		}
		w := newWorld(c, lowers)
		for range 60 {
			x := drawnCall(&d, b)
			roomy := twin(t, c, lowers, b)
			err := agree(t, b, w, x)
			count[fmt.Sprint(x.Op, " ", err)]++
			again := roomy.Bytes()
			_, free := roomy.Do(x)
			if more := (tree.Size(roomy.Upper()) + 63) / 64; (err == api.ErrQuota) != (free == api.ErrQuota || free == nil && roomy.Bytes() != again && more > c.Quota) {
				t.Fatalf("%+v: %v, but with more quota %v, %d", x, err, free, more)
			}
			kept(t, scene{b, lowers}, fmt.Sprintf("%+v", x))
		}
	}
	for op, l := range possible() {
		for _, e := range append(l, nil) {
			if k := fmt.Sprint(op, " ", e); count[k] < 3 {
				t.Errorf("Op and error %s: seen %d times", k, count[k])
			}
		}
	}
	for k, n := range count {
		var op, e int
		if _, err := fmt.Sscanf(k, "%d idshift: error %d", &op, &e); err == nil && !slices.Contains(possible()[op], error(api.Errno(e))) && op >= 1 && op <= 14 {
			t.Errorf("Op and error %s: seen %d times", k, n)
		}
	}
}

// twin of a box, with as much quota as may be (W3).
func twin(t *testing.T, c api.Config, lowers []api.Node, b *box.Box) *box.Box {
	t.Helper()
	c.Quota = api.MaxQuota
	x, err := box.Load(c, lowers, b.Bytes())
	if err != nil {
		t.Fatal(err)
	}
	return x
}

// possible errors of each Op.
func possible() map[int][]error {
	at := []error{api.ErrName, api.ErrMany, api.ErrKind, api.ErrAccess, api.ErrNone}
	with := func(l ...error) []error { return append(l, at...) }
	return map[int][]error{
		api.CallStat: with(), api.CallList: with(), api.CallRead: with(),
		api.CallPut:    with(api.ErrBound, api.ErrUnmapped, api.ErrQuota),
		api.CallMake:   with(api.ErrBound, api.ErrExist, api.ErrUnmapped, api.ErrQuota),
		api.CallRemove: with(api.ErrHeld, api.ErrPerm, api.ErrFilled, api.ErrUnmapped, api.ErrQuota),
		api.CallMove:   with(api.ErrHeld, api.ErrPerm, api.ErrShape, api.ErrExist, api.ErrCross, api.ErrUnmapped, api.ErrQuota),
		api.CallMode:   with(api.ErrBound, api.ErrPerm, api.ErrUnmapped, api.ErrQuota),
		api.CallOwn:    with(api.ErrBound, api.ErrPerm, api.ErrUnmapped, api.ErrQuota),
		api.CallSet:    with(api.ErrBound, api.ErrPerm, api.ErrUnmapped, api.ErrQuota),
		api.CallDrop:   with(api.ErrPerm, api.ErrUnmapped, api.ErrQuota),
		api.CallGet:    with(api.ErrPerm),
		api.CallBe:     {api.ErrBound, api.ErrPerm, api.ErrUnmapped},
		api.CallCharge: {},
	}
}

// W2: whatever a box does, a White stands just where something would be seen else.
func TestW2Whites(t *testing.T) {
	d := die(22)
	whites := 0
	for range 300 {
		lowers := drawnLowers(&d)
		b, err := box.New(config(admin(), 64), lowers)
		if err != nil {
			t.Fatal(err)
		}
		w := newWorld(config(admin(), 64), lowers)
		for range 80 {
			c := drawnCall(&d, b)
			c.Op = of(&d, api.CallRemove, api.CallRemove, api.CallRemove, api.CallMove, api.CallMove, api.CallMake, api.CallPut)
			_ = agree(t, b, w, c)
			layers := append([]api.Node{b.Upper()}, lowers...)
			each(layers[0], nil, func(names []string, n api.Node) {
				_, _, seen := merge.Look(layers, names)
				if n.Kind == api.White {
					whites++
				}
				if (n.Kind == api.White) != !seen || n.Kind == api.White && !merge.Below(layers, names) {
					t.Fatalf("%+v: %q: %v", c, names, n)
				}
			})
		}
	}
	if whites < 1000 {
		t.Errorf("%d Whites", whites)
	}
}

// What a box answers hangs on its config, its lowers and its calls alone: also if it was loaded in between.
func TestZ2TheSameAgain(t *testing.T) {
	d := die(33)
	for range 200 {
		c, lowers := drawnConfig(&d), drawnLowers(&d)
		a, err := box.New(c, lowers)
		if err != nil {
			t.Fatal(err)
		}
		b := a.Copy()
		for range 30 {
			x := drawnCall(&d, a)
			if b, err = box.Load(c, lowers, b.Bytes()); err != nil {
				t.Fatal(err)
			}
			one, err1 := a.Do(x)
			two, err2 := b.Do(x)
			if err1 != err2 || !sameTold(one, two) || a.Bytes() != b.Bytes() {
				t.Fatalf("%+v: %v, %v and %v, %v", x, one, err1, two, err2)
			}
		}
	}
}
