package merge_test

import (
	"slices"
	"strconv"
	"strings"
	"testing"

	"idshift/api"
	"idshift/merge"
)

func TestM3Flat(t *testing.T) {
	for _, x := range []struct{ name, layers, want string }{
		{"no layers", "", ""},
		{"a White", "w", ""},
		{"a White above a Dir", "w|d(a=fx)", ""},
		{"no Kind above a Dir", "n|d(a=fx)", ""},
		{"an empty Dir", "dx", "dx"},
		{"a File", "fx", "fx"},
		{"a File with Kids", "fx(a=fy)", "fx"},
		{"an Opaque File", "Fx", "fx"},
		{"a File above a Dir", "fx|d(a=fx)", "fx"},
		{"a Dir above a File", "dx|fy", "dx"},
		{"one layer", "dx(a=fy b=dz(c=fp))", "dx(a=fy b=dz(c=fp))"},
		{"kids rise", "dx(c=fy a=fz b=fp)", "dx(a=fz b=fp c=fy)"},
		{"kids of several rise", "dx(d=fy b=fz)|d(c=fp a=fq)", "dx(a=fq b=fz c=fp d=fy)"},
		{"twice in one node", "dx(b=fy a=fz b=fp)", "dx(a=fz b=fy)"},
		{"Dirs are one", "dx(a=dy(p=fp))|dz(a=dq(q=fq))|dr(a=ds(p=fs t=ft))", "dx(a=dy(p=fp q=fq t=ft))"},
		{"Files don't", "dx(a=fy)|d(a=fz)", "dx(a=fy)"},
		{"a File above a Dir at a name", "d(a=fy)|d(a=d(b=fx))", "d(a=fy)"},
		{"a Dir above a File at a name", "d(a=dy)|d(a=fz)", "d(a=dy)"},
		{"no Whites", "d(a=w b=fx)|d(a=fy c=w)|d(c=fz d=fp)", "d(b=fx d=fp)"},
		{"none of no Kind", "d(a=n b=fx)|d(a=fy)", "d(b=fx)"},
		{"a White within", "d(a=d(b=w))|d(a=d(b=fx c=fy))", "d(a=d(c=fy))"},
		{"Opaque at the top", "D(a=fx)|d(b=fy)", "d(a=fx)"},
		{"Opaque at a name", "d(a=Dx(p=fp))|d(a=dy(q=fq) b=fz)", "d(a=dx(p=fp) b=fz)"},
		{"Opaque between", "d(a=dx)|d(a=Dy(p=fp))|d(a=dz(q=fq))", "d(a=dx(p=fp))"},
		{"what is below is a lower's alone", "d|d|d(a=dx(b=dy(c=fz)))", "d(a=dx(b=dy(c=fz)))"},
		{"names that are none", "d(A/=fx =d(=fy))|d(=d(a=fz))", "d(=d(=fy a=fz) A/=fx)"},
	} {
		got, is := merge.Flat(layers(x.layers), nil)
		if is != (x.want != "") || is && tell(got) != x.want || !is && !zero(got) {
			t.Errorf("%s: Flat(%s): %v, %v, not %s", x.name, x.layers, got, is, x.want)
		}
		same := func(n api.Node, layer int) api.Node { return n }
		if got, is = merge.Flat(layers(x.layers), same); is != (x.want != "") || is && tell(got) != x.want || !is && !zero(got) {
			t.Errorf("%s: Flat(%s), as f leaves it: %v, %v, not %s", x.name, x.layers, got, is, x.want)
		}
	}
}

// stack: layers whose nodes have something of all, and what Flat makes of them.
func stack() ([]api.Node, api.Node) {
	closed := full(api.Dir, 4, kid("x", full(api.File, 5)))
	closed.Opaque = true
	l := []api.Node{
		full(api.Dir, 0, kid("c", closed), kid("w", full(api.White, 6))),
		full(api.Dir, 1, kid("a", full(api.File, 7)), kid("d", full(api.Dir, 8)), kid("w", full(api.File, 9))),
		full(api.Dir, 2, kid("d", full(api.Dir, 10, kid("y", full(api.File, 11)))), kid("c", full(api.Dir, 12, kid("z", full(api.File, 13))))),
	}
	return l, full(api.Dir, 0,
		kid("a", full(api.File, 7)),
		kid("c", full(api.Dir, 4, kid("x", full(api.File, 5)))),
		kid("d", full(api.Dir, 8, kid("y", full(api.File, 11)))))
}

// Each node stays as it is, but for its Kids and Opaque.
func TestM3FlatWhole(t *testing.T) {
	l, want := stack()
	if got, is := merge.Flat(l, nil); !is || !same(got, want) {
		t.Errorf("%v, %v, not %v", got, is, want)
	}
}

// f is handed each node that is seen, once, without Kids and Opaque, and the layer that has it; each ahead of its kids, whose names rise.
func TestM3WhatIsHanded(t *testing.T) {
	l, _ := stack()
	var nodes []api.Node
	var numbers []int
	merge.Flat(l, func(n api.Node, layer int) api.Node {
		nodes, numbers = append(nodes, n), append(numbers, layer)
		return n
	})
	want := []api.Node{full(api.Dir, 0), full(api.File, 7), full(api.Dir, 4), full(api.File, 5), full(api.Dir, 8), full(api.File, 11)}
	if !slices.EqualFunc(nodes, want, same) || !slices.Equal(numbers, []int{0, 1, 0, 0, 1, 2}) {
		t.Errorf("%v, %v", nodes, numbers)
	}
}

// f isn't asked if nothing is seen, and an Opaque File comes without that too.
func TestM3Asked(t *testing.T) {
	for text, want := range map[string]int{"": 0, "w|d(a=fx)": 0, "n": 0, "F": 1, "D(a=w)|d(a=fx)": 1, "F(a=fx)|d": 1, "d(a=F b=n)": 2} {
		asked := 0
		merge.Flat(layers(text), func(n api.Node, layer int) api.Node {
			asked++
			if n.Opaque || len(n.Kids) > 0 {
				t.Errorf("%s: f is handed %v", text, n)
			}
			return n
		})
		if asked != want {
			t.Errorf("%s: f is asked %d times, not %d", text, asked, want)
		}
	}
}

// What f makes stays as it makes it; what it makes of the Kind does nothing to what is seen.
func TestM3WhatIsMade(t *testing.T) {
	const text = "dx(a=fy b=dz(c=fp) e=w)|d(b=d(d=fq) e=fr)"
	for _, x := range []struct {
		name string
		f    func(n api.Node, layer int) api.Node
		want string
	}{
		{"Data", func(n api.Node, layer int) api.Node {
			n.Data += strconv.Itoa(layer)
			return n
		}, "dx0(a=fy0 b=dz0(c=fp0 d=fq1))"},
		{"Opaque", func(n api.Node, layer int) api.Node {
			n.Opaque = true
			return n
		}, "Dx(a=Fy b=Dz(c=Fp d=Fq))"},
		{"Whites", func(n api.Node, layer int) api.Node {
			n.Kind = api.White
			return n
		}, "wx(a=wy b=wz(c=wp d=wq))"},
		{"Files", func(n api.Node, layer int) api.Node {
			n.Kind = api.File
			return n
		}, "fx(a=fy b=fz(c=fp d=fq))"},
		{"another node", func(n api.Node, layer int) api.Node { return api.Node{Kind: none, Data: "o"} }, "no(a=no b=no(c=no d=no))"},
		{"Kids of its own", func(n api.Node, layer int) api.Node {
			n.Kids = []api.Kid{kid("z", node("fk")), kid("a", node("dl(p=w)"))}
			return n
		}, "dx(z=fk a=dl(p=w) a=fy(z=fk a=dl(p=w)) b=dz(z=fk a=dl(p=w) c=fp(z=fk a=dl(p=w)) d=fq(z=fk a=dl(p=w))))"},
		{"Kids of Files alone", func(n api.Node, layer int) api.Node {
			if n.Kind == api.File {
				n.Kids = []api.Kid{kid("", node("w"))}
			}
			return n
		}, "dx(a=fy(=w) b=dz(c=fp(=w) d=fq(=w)))"},
		{"Kids that are Opaque", func(n api.Node, layer int) api.Node {
			if layer == 1 {
				n.Kids = []api.Kid{kid("k", node("D(m=W)"))}
			}
			return n
		}, "dx(a=fy b=dz(c=fp d=fq(k=D(m=W))))"},
	} {
		if got, is := merge.Flat(layers(text), x.f); !is || tell(got) != x.want {
			t.Errorf("%s: %s, %v, not %s", x.name, tell(got), is, x.want)
		}
	}
}

// Numbers and Attrs of what f makes stay too.
func TestM3WhatIsMadeWhole(t *testing.T) {
	l, _ := stack()
	made := full(none, 20, kid("k", full(api.Dir, 21)))
	made.Opaque = true
	got, _ := merge.Flat(l, func(n api.Node, layer int) api.Node { return made })
	if len(got.Kids) != 4 || !same(got.Kids[0].Node, full(api.Dir, 21)) {
		t.Fatalf("%v", got)
	}
	for _, k := range got.Kids[1:] {
		k.Node.Kids = k.Node.Kids[:1]
		if !same(k.Node, made) {
			t.Errorf("%v", k.Node)
		}
	}
	got.Kids = got.Kids[:1]
	if !same(got, made) {
		t.Errorf("%v", got)
	}
}

// f may ask for others meanwhile.
func TestM3AskedWithin(t *testing.T) {
	l := layers("dx(a=fy)|d(b=fz)")
	got, _ := merge.Flat(l, func(n api.Node, layer int) api.Node {
		in, _ := merge.Flat(l, nil)
		n.Data += strings.Join(merge.List(l, nil), "") + strconv.Itoa(len(in.Kids))
		return n
	})
	if tell(got) != "dxab2(a=fyab2 b=fzab2)" {
		t.Error(tell(got))
	}
}
