package box_test

import (
	"math"
	"strings"
	"testing"

	"idshift/api"
	"idshift/box"
	"idshift/tree"
)

// any calls: numbers and texts as they may come.
func anyCalls(f func(c api.Call)) {
	numbers := []int{math.MinInt, -2, -1, 0, 1, 511, 4095, 4096, 65535, 65536, math.MaxInt}
	texts := []string{"", "/", "/a", "/d/e", "/d/e/f/g/h/i", "/d/e/f/g/h/i/j", "a", "//", "/\x00", "/ä", strings.Repeat("/a", 1<<16), "u.a", "t.a", "u.", "\xff"}
	for op := -1; op <= 16; op++ {
		for i, p := range texts {
			for j, o := range texts {
				for k, x := range numbers {
					c := api.Call{Op: op, Path: p, Other: o, Name: texts[(i+k)%len(texts)], Data: strings.Repeat("x", (i*j*k*7)%300), A: x, B: numbers[(i+j+k)%len(numbers)]}
					f(c)
				}
			}
		}
	}
}

// Every call ends, and none panics; what it answers is as the document has it.
func TestZ1AnyCalls(t *testing.T) {
	lowers := trees("d(a=f:1.1[t.a~1,u.a~2]'x d=d777(e=d777(f=f) g=f:90.90))|d(d=d(e=d(f=d(g=d(h=d)))))")
	for _, by := range []api.Cred{admin(), who(1, 1, 0)} {
		b, err := box.New(config(by, 64), lowers)
		if err != nil {
			t.Fatal(err)
		}
		w := newWorld(config(by, 64), lowers)
		anyCalls(func(c api.Call) {
			told, err := b.Do(c)
			want, wantErr := w.do(c)
			if err != wantErr || !sameTold(told, want) {
				t.Fatalf("%+v: %v, %v, not %v, %v", c, told, err, want, wantErr)
			}
		})
		if !same(b.Upper(), w.upper(w.root, false)) || !same(b.Flat(), w.root.flat()) {
			t.Errorf("%v", b.Upper())
		}
	}
}

// Configs and lowers as they may come.
func TestZ1AnyConfigs(t *testing.T) {
	var deep api.Node
	for range 100000 {
		deep = api.Node{Kind: api.Dir, Kids: []api.Kid{{Name: "a", Node: deep}}}
	}
	odd := api.Node{Kind: 9, Mode: math.MinInt, User: math.MaxInt, Opaque: true, Data: "x", Kids: []api.Kid{{}, {}}}
	for _, x := range []struct {
		what   string
		c      api.Config
		lowers []api.Node
		err    error
	}{
		{"nothing", api.Config{}, nil, api.ErrBound},
		{"numbers", api.Config{Maps: api.Maps{Users: []api.Range{{In: math.MaxInt, Out: math.MinInt, Count: math.MaxInt}}}}, nil, api.ErrBound},
		{"many", api.Config{Maps: api.Maps{Users: make([]api.Range, 1000000)}}, nil, api.ErrMany},
		{"quota", config(admin(), math.MaxInt), nil, api.ErrBound},
		{"lowers", config(admin(), 1), make([]api.Node, 1000000), api.ErrMany},
		{"a lower that is nothing", config(admin(), 1), make([]api.Node, 3), api.ErrKind},
		{"a deep lower", config(admin(), 1), []api.Node{deep}, api.ErrMany},
		{"an odd lower", config(admin(), 1), []api.Node{node("d"), {Kind: api.Dir, Kids: []api.Kid{{Name: "a", Node: odd}}}}, api.ErrShape},
	} {
		asked(t, x.what, x.c, x.lowers, x.err)
	}
}

// Uppers that no call would make: a text may have them, and calls go on from there.
func TestZ1AnyUppers(t *testing.T) {
	d := die(44)
	loaded := 0
	for range 3000 {
		lowers := drawnLowers(&d)
		upper := oddUpper(&d, 3)
		upper.Kind, upper.Opaque, upper.Data = api.Dir, false, ""
		s, err := tree.Bytes(upper)
		if err != nil {
			continue
		}
		c := drawnConfig(&d)
		c.Quota = api.MaxQuota
		b, err := box.Load(c, lowers, text("0001 0002 0f 00")+s)
		if err != nil {
			continue
		}
		loaded++
		if !same(b.Upper(), upper) {
			t.Fatalf("%v, not %v", b.Upper(), upper)
		}
		for range 20 {
			x := drawnCall(&d, b)
			before := b.Bytes()
			told, err := b.Do(x)
			if err != nil && (b.Bytes() != before || !sameTold(told, api.Told{})) {
				t.Fatalf("%+v: %v, %v", x, told, err)
			}
			if err := tree.Check(b.Upper(), true); err != nil {
				t.Fatalf("%+v: %v", x, err)
			}
			_ = b.Flat()
		}
	}
	if loaded < 1000 {
		t.Errorf("only %d were loaded", loaded)
	}
}

// oddUpper: a tree with Whites and Opaque directories anywhere, of any ids.
func oddUpper(d *die, deep int) api.Node {
	switch d.n(6) {
	case 0:
		return api.Node{Kind: api.White}
	case 1:
		return api.Node{Kind: api.File, Mode: d.n(4096), User: 1000 + d.n(12), Group: 2000 + d.n(9), Data: "x"}
	}
	n := api.Node{Kind: api.Dir, Mode: of(d, 0o777, 0o777, 0o2777, d.n(4096)), User: 1000 + d.n(12), Group: 2000 + d.n(9), Opaque: d.n(4) == 0}
	for _, name := range []string{"a", "b", "c", "d"} {
		if deep > 0 && d.n(2) == 0 {
			n.Kids = append(n.Kids, api.Kid{Name: name, Node: oddUpper(d, deep-1)})
		}
	}
	return n
}
