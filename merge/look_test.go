package merge_test

import (
	"slices"
	"strings"
	"testing"

	"idshift/api"
	"idshift/merge"
)

// seen: layers, names, and what Look finds there ("": nothing), in which layer.
type seen struct {
	name, layers, names string
	want                string
	layer               int
}

func look(t *testing.T, all []seen) {
	t.Helper()
	for _, x := range all {
		got, layer, is := merge.Look(layers(x.layers), names(x.names))
		if x.want == "" {
			if is || layer != 0 || !zero(got) {
				t.Errorf("%s: Look(%s; %s): %v, %d, %v, not nothing", x.name, x.layers, x.names, got, layer, is)
			}
			continue
		}
		if !is || layer != x.layer || tell(got) != x.want {
			t.Errorf("%s: Look(%s; %s): %v, %d, %v, not %s, %d", x.name, x.layers, x.names, got, layer, is, x.want, x.layer)
		}
	}
}

func TestM2LookAtTheTop(t *testing.T) {
	look(t, []seen{
		{"no layers", "", "", "", 0},
		{"a File", "fx", "", "fx", 0},
		{"a Dir", "dx(a=fy)", "", "dx(a=fy)", 0},
		{"an Opaque Dir", "Dx(a=fy)", "", "Dx(a=fy)", 0},
		{"a White", "wx", "", "", 0},
		{"a Kind that is none", "nx", "", "", 0},
		{"a File above a Dir", "fx|d(a=fy)", "", "fx", 0},
		{"a Dir above a File", "dx|fy", "", "dx", 0},
		{"a Dir above a Dir, its own Kids alone", "dx(a=fp)|dy(b=fq)", "", "dx(a=fp)", 0},
		{"a White above a Dir", "w|d(a=fy)", "", "", 0},
		{"a White above a File", "w|fy", "", "", 0},
		{"an Opaque White above a Dir", "W|d(a=fy)", "", "", 0},
		{"no Kind above a Dir", "n|d(a=fy)", "", "", 0},
		{"no Kind above a File", "n|fy", "", "", 0},
		{"a File with Kids", "fx(a=fy)", "", "fx(a=fy)", 0},
		{"an Opaque File", "Fx|d", "", "Fx", 0},
	})
}

// What stands at a name in two layers, one above the other.
func TestM1Pairs(t *testing.T) {
	look(t, []seen{
		{"a File above a File", "d(a=fx)|d(a=fy)", "a", "fx", 0},
		{"a File above a Dir", "d(a=fx)|d(a=dy(b=fz))", "a", "fx", 0},
		{"a File above a Dir, within", "d(a=fx)|d(a=dy(b=fz))", "a b", "", 0},
		{"a File above a White", "d(a=fx)|d(a=w)", "a", "fx", 0},
		{"a Dir above a File", "d(a=dx)|d(a=fy)", "a", "dx", 0},
		{"a Dir above a File with Kids, within", "d(a=dx)|d(a=fy(b=fz))", "a b", "", 0},
		{"a Dir above a Dir, within the first", "d(a=dx(b=fp))|d(a=dy(b=fq))", "a b", "fp", 0},
		{"a Dir above a Dir, within the second", "d(a=dx)|d(a=dy(b=fq))", "a b", "fq", 1},
		{"a Dir above a White", "d(a=dx(b=fp))|d(a=w)", "a b", "fp", 0},
		{"a White above a File", "d(a=w)|d(a=fy)", "a", "", 0},
		{"a White above a Dir", "d(a=w)|d(a=dy(b=fz))", "a", "", 0},
		{"a White above a Dir, within", "d(a=w)|d(a=dy(b=fz))", "a b", "", 0},
		{"a White with Kids", "d(a=w(b=fx))|d(a=dy(b=fz))", "a b", "", 0},
		{"a White above a White", "d(a=w)|d(a=w)", "a", "", 0},
		{"no Kind above a File", "d(a=n)|d(a=fy)", "a", "", 0},
		{"no Kind above a Dir", "d(a=n)|d(a=dy(b=fz))", "a", "", 0},
		{"no Kind with Kids", "d(a=n(b=fx))|d(a=dy(b=fz))", "a b", "", 0},
		{"nothing above a White", "d|d(a=w)", "a", "", 0},
		{"nothing above a File", "d|d(a=fy)", "a", "fy", 1},
		{"nothing above a Dir", "d|d(a=dy(b=fz))", "a", "dy(b=fz)", 1},
		{"an Opaque File above a Dir", "d(a=Fx)|d(a=dy(b=fz))", "a b", "", 0},
	})
}

// What is below is hidden from the first that is no Dir on.
func TestM1Hidden(t *testing.T) {
	look(t, []seen{
		{"a File between Dirs", "d|fx|d(a=fy)", "a", "", 0},
		{"a White between Dirs", "d|w|d(a=fy)", "a", "", 0},
		{"no Kind between Dirs", "d|n|d(a=fy)", "a", "", 0},
		{"a File between Dirs at a name", "d(a=d)|d(a=fx)|d(a=d(b=fy))", "a b", "", 0},
		{"a White between Dirs at a name", "d(a=d)|d(a=w)|d(a=d(b=fy))", "a b", "", 0},
		{"no Kind between Dirs at a name", "d(a=d)|d(a=n)|d(a=d(b=fy))", "a b", "", 0},
		{"a Dir without it is passed over", "d(a=d)|d|d(a=d(b=fy))", "a b", "fy", 2},
		{"many are passed over", "d|d(b=w)|d(c=fx)|d(b=d(a=fz))|d(a=fy)", "a", "fy", 4},
		{"what is no Dir hides the rest, though it hasn't the name", "d(a=d)|f|d(a=d(b=fy))", "a b", "", 0},
		{"a name of what is hidden hides nothing", "d(a=d)|d(a=D)|d(a=w)", "a", "d", 0},
		{"hidden in one place, not in another", "d(a=w)|d(a=d(x=fp) b=d(x=fq))", "b x", "fq", 1},
		{"a White of the place hides what is in it", "d(a=w b=fx)|d(a=d(b=fy))", "a b", "", 0},
		{"the layer of a White is asked no more", "d(a=d(b=w))|d(a=d(b=d(c=fx)))|d(a=d(b=d(c=fy)))", "a b c", "", 0},
	})
}

func TestM1Opaque(t *testing.T) {
	look(t, []seen{
		{"at the top", "D|d(a=fx)|d(a=fy)", "a", "", 0},
		{"at the top, what it has itself", "D(a=fz)|d(a=fx)", "a", "fz", 0},
		{"between", "d|D|d(a=fy)", "a", "", 0},
		{"between, what it has itself", "d|D(a=fx)|d(a=fy)", "a", "fx", 1},
		{"at the bottom", "d|d|D(a=fy)", "a", "fy", 2},
		{"at the top of a name", "d(a=D)|d(a=d(b=fy))", "a b", "", 0},
		{"between, of a name", "d(a=d)|d(a=D(c=fz))|d(a=d(b=fy))", "a b", "", 0},
		{"between, of a name, what it has itself", "d(a=d)|d(a=D(c=fz))|d(a=d(b=fy))", "a c", "fz", 1},
		{"at the bottom of a name", "d(a=d)|d(a=d)|d(a=D(b=fy))", "a b", "fy", 2},
		{"the lowers' ahead of it alone", "d|d(a=D)|d(a=d(b=fy))", "a b", "", 0},
		{"of another name", "d(a=D)|d(b=fy)", "b", "fy", 1},
		{"of two the first", "d(a=D)|d(a=D(b=fx))", "a b", "", 0},
		{"a File below it", "d(a=D)|d(a=fx)", "a", "D", 0},
		{"within it a lower's White", "d(a=D(b=fx))|d(a=d(b=w))", "a b", "fx", 0},
		{"it is seen as it stands", "d|d(a=Dx(b=w))", "a", "Dx(b=w)", 1},
	})
}

func TestM2Look(t *testing.T) {
	look(t, []seen{
		{"no layers", "", "a", "", 0},
		{"through nothing", "d", "a b", "", 0},
		{"through nothing, of what a lower has at the last name", "d(b=fx)", "a b", "", 0},
		{"through a File", "d(a=fx)", "a b", "", 0},
		{"through a File with Kids", "d(a=fx(b=fy))", "a b", "", 0},
		{"through a File at the top", "f(a=fx)", "a", "", 0},
		{"through a File at the top, a lower has it", "f|d(a=fx)", "a", "", 0},
		{"one layer", "d(a=d(b=d(c=fx)))", "a b c", "fx", 0},
		{"what a lower has alone", "d(a=d)|d|d(a=d(b=fx))", "a b", "fx", 2},
		{"what two lowers have", "d|d(a=fx)|d(a=fy)", "a", "fx", 1},
		{"a lower's Dir with its own Kids", "d|d(a=dx(p=fp))|d(a=dy(q=fq))", "a", "dx(p=fp)", 1},
		{"a lower's Dir, within the next", "d|d(a=dx(p=fp))|d(a=dy(q=fq))", "a q", "fq", 2},
		{"twice in one node: the first", "d(a=fx a=fy)", "a", "fx", 0},
		{"twice in one node: the first is a White", "d(a=w a=fy)|d(a=fz)", "a", "", 0},
		{"twice in one node: the other is passed over", "d(a=dx a=d(b=fy))|d(a=d(b=fz))", "a b", "fz", 1},
		{"twice in one node: the other hides nothing", "d(a=dx a=w)|d(a=d(b=fz))", "a b", "fz", 1},
		{"twice in a lower", "d|d(a=dx a=d(b=fy))", "a b", "", 0},
		{"a White within", "d(a=d(b=w c=fx))|d(a=d(b=fy c=fz))", "a b", "", 0},
		{"beside a White", "d(a=d(b=w c=fx))|d(a=d(b=fy c=fz))", "a c", "fx", 0},
		{"names that are none", "d(A/=d)|d(A/=d(=fx))", "A/ =", "fx", 1},
		{"an empty name that there is not", "d(a=fx)", "=", "", 0},
		{"a name that goes on", "d(a=fx)|d(aa=fy)", "aa", "fy", 1},
		{"a beginning of a name", "d(aa=fx)", "a", "", 0},
		{"kids in any order", "d(z=fx a=fy m=fz)", "m", "fz", 0},
	})
}

// Look answers all that a node has.
func TestM2LookWhole(t *testing.T) {
	low := full(api.Dir, 3, kid("z", full(api.White, 4)), kid("b", full(none, 5)))
	low.Opaque = true
	l := []api.Node{full(api.Dir, 0), full(api.Dir, 1, kid("a", low)), full(api.Dir, 2, kid("a", full(api.File, 6)))}
	if got, layer, is := merge.Look(l, names("a")); !is || layer != 1 || !same(got, low) {
		t.Errorf("%v, %d, %v", got, layer, is)
	}
	if got, layer, is := merge.Look(l, nil); !is || layer != 0 || !same(got, l[0]) {
		t.Errorf("%v, %d, %v", got, layer, is)
	}
}

// What is seen at each beginning of names, without its Kids; a blank between them.
func TestM2Along(t *testing.T) {
	for _, x := range []struct {
		name, layers, names string
		want                string
		from                []int
	}{
		{"no layers", "", "a", "", nil},
		{"a White", "w|d(a=fx)", "a", "", nil},
		{"no names", "dx(a=fy)|d", "", "dx", []int{0}},
		{"an Opaque one", "Dx|d(a=fy)", "", "Dx", []int{0}},
		{"the upper's", "dx(a=dy(b=fz))", "a b", "dx dy fz", []int{0, 0, 0}},
		{"a lower's", "dx|d|d(a=Dy(b=fz))", "a b", "dx Dy fz", []int{0, 2, 2}},
		{"of several", "dx(a=dy)|d(a=d(b=dp))|d(a=d(b=d(c=fq)))", "a b c", "dx dy dp fq", []int{0, 0, 1, 2}},
		{"no further than something is seen", "dx(a=dy(b=w))|d(a=d(b=d(c=fq)))", "a b c", "dx dy", []int{0, 0}},
		{"no further than a File", "dx(a=fy(b=fz))", "a b", "dx fy", []int{0, 0}},
	} {
		nodes, from := merge.Along(layers(x.layers), names(x.names))
		var told []string
		for _, n := range nodes {
			told = append(told, tell(n))
		}
		if strings.Join(told, " ") != x.want || !slices.Equal(from, x.from) {
			t.Errorf("%s: Along(%s; %s): %v, %v, not %s, %v", x.name, x.layers, x.names, told, from, x.want, x.from)
		}
	}
}

func TestM2List(t *testing.T) {
	for _, x := range []struct{ name, layers, names, want string }{
		{"no layers", "", "", ""},
		{"no layers, at a name", "", "a", ""},
		{"an empty Dir", "d", "", ""},
		{"a File", "fx", "", ""},
		{"a File with Kids", "fx(a=fy)", "", ""},
		{"a File above a Dir", "fx|d(a=fy)", "", ""},
		{"a File at a name", "d(a=fx)|d(a=d(b=fy))", "a", ""},
		{"a White", "w(a=fy)|d(a=fy)", "", ""},
		{"no Kind", "n(a=fy)|d(a=fy)", "", ""},
		{"of nothing", "d(a=fx)", "b", ""},
		{"through nothing", "d(a=fx)", "b a", ""},
		{"through a File", "d(a=f(b=d(c=fx)))", "a b", ""},
		{"one layer", "d(a=fx b=d c=D)", "", "a b c"},
		{"in any order", "d(c=fx a=fy b=fz)", "", "a b c"},
		{"in any order, of several", "d(c=fx e=d)|d(d=fx a=fy)|d(b=fz)", "", "a b c d e"},
		{"each once", "d(a=fx b=d)|d(a=fy b=d c=fz)|d(c=fx a=d)", "", "a b c"},
		{"twice in one node", "d(a=fx b=fy a=fz)", "", "a b"},
		{"twice, a White first", "d(a=w b=fy a=fz)", "", "b"},
		{"twice, a White behind", "d(a=fz b=fy a=w)", "", "a b"},
		{"twice in a lower, a White first", "d|d(a=w a=fz)|d(a=fx)", "", ""},
		{"what a White hides", "d(a=w b=fx)|d(a=fy c=fz)", "", "b c"},
		{"what a lower's White hides", "d|d(a=w)|d(a=fy b=fx)", "", "b"},
		{"a White below hides nothing above", "d(a=fx)|d(a=w)", "", "a"},
		{"what no Kind hides", "d(a=n b=fx)|d(a=fy c=fz)", "", "b c"},
		{"Opaque at the top", "D(b=fx)|d(a=fy)", "", "b"},
		{"Opaque between", "d(c=fz)|D(b=fx)|d(a=fy)", "", "b c"},
		{"Opaque at the bottom", "d(c=fz)|d(b=fx)|D(a=fy)", "", "a b c"},
		{"a White in an Opaque Dir", "D(a=w b=fx)|d(a=fy)", "", "b"},
		{"a File between", "d(c=fz)|f(b=fx)|d(a=fy)", "", "c"},
		{"a White between", "d(c=fz)|w|d(a=fy)", "", "c"},
		{"at a name", "d(a=d(x=fx))|d(a=d(y=fy) b=fz)", "a", "x y"},
		{"at a name that a lower has alone", "d|d(a=d(y=fy))|d(a=d(x=fx))", "a", "x y"},
		{"at an Opaque Dir of a name", "d(a=D(x=fx))|d(a=d(y=fy))", "a", "x"},
		{"at what a White hides", "d(a=w)|d(a=d(y=fy))", "a", ""},
		{"byte by byte", "d(ab=fx a=fx a.=fx A=fx b=fx a0=fx é=fx)|d(=fx)", "", "= A a a. a0 ab b é"},
	} {
		got := merge.List(layers(x.layers), names(x.names))
		if !slices.Equal(got, names(x.want)) {
			t.Errorf("%s: List(%s; %s): %q, not %q", x.name, x.layers, x.names, got, names(x.want))
		}
	}
}

func TestM2Below(t *testing.T) {
	for _, x := range []struct {
		name, layers, names string
		want                bool
	}{
		{"no layers", "", "a", false},
		{"without names, no layers", "", "", false},
		{"without names", "d(a=fx)|d(a=fx)", "", false},
		{"without names, Files", "fx|fx", "", false},
		{"one layer has it", "d(a=fx)", "a", false},
		{"one layer has it not", "d", "a", false},
		{"layer 0 has it, a lower too", "d(a=fx)|d(a=fy)", "a", true},
		{"layer 0 has it, a lower not", "d(a=fx)|d(b=fy)", "a", false},
		{"layer 0 has it not, a lower has", "d|d(a=fy)", "a", true},
		{"layer 0 has it not, nor a lower", "d(b=fx)|d(b=fx)", "a", false},
		{"a Dir of a lower", "d(a=fx)|d(a=d)", "a", true},
		{"an Opaque Dir of a lower", "d(a=fx)|d(a=D)", "a", true},
		{"layer 0 has a White", "d(a=w)|d(a=fy)", "a", true},
		{"layer 0 has a White, a lower none", "d(a=w)|d", "a", false},
		{"layer 0 has no Kind", "d(a=n)|d(a=fy)", "a", true},
		{"layer 0 has an Opaque Dir there", "d(a=D)|d(a=fy)", "a", true},
		{"twice in layer 0: all go", "d(a=w a=fx)|d", "a", false},
		{"twice in layer 0: all go, a lower has it", "d(a=fx a=w)|d(a=fy)", "a", true},
		{"the second lower", "d|d|d(a=fy)", "a", true},
		{"a lower's is hidden by another's White", "d|d(a=w)|d(a=fy)", "a", false},
		{"layer 0 has it, a lower's is hidden by another's White", "d(a=fx)|d(a=w)|d(a=fy)", "a", false},
		{"a White behind hides nothing", "d(a=fx)|d(a=fz)|d(a=w)", "a", true},
		{"a lower's is hidden by no Kind", "d|d(a=n)|d(a=fy)", "a", false},
		{"under an Opaque layer 0", "D(a=fx)|d(a=fy)", "a", false},
		{"under an Opaque Dir of layer 0", "d(a=D(b=fx))|d(a=d(b=fy))", "a b", false},
		{"under an Opaque Dir of layer 0 without it", "d(a=D)|d(a=d(b=fy))", "a b", false},
		{"farther under an Opaque Dir of layer 0", "d(a=D(b=d(c=fx)))|d(a=d(b=d(c=fy)))", "a b c", false},
		{"under an Opaque Dir of a lower", "d|D(b=fx)|d(a=fy)", "a", false},
		{"in an Opaque Dir of a lower", "d|D(a=fx)|d(a=fy)", "a", true},
		{"within, both have it", "d(a=d(b=fx))|d(a=d(b=fy))", "a b", true},
		{"within, the lower has it", "d(a=d)|d(a=d(b=fy))", "a b", true},
		{"within what layer 0 hasn't", "d|d(a=d(b=fy))", "a b", true},
		{"within what layer 0 hasn't, two lowers", "d|d(a=d(b=w))|d(a=d(b=fy))", "a b", false},
		{"within what layer 0 hasn't, the first lower's goes not", "d|d(a=d(b=fx))|d(a=d)", "a b", true},
		{"within a White of layer 0", "d(a=w)|d(a=d(b=fy))", "a b", false},
		{"within a File of layer 0", "d(a=fx)|d(a=d(b=fy))", "a b", false},
		{"within a File of a lower", "d|d(a=fx(b=fz))|d(a=d(b=fy))", "a b", false},
		{"under a File at the top", "fx|d(a=fy)", "a", false},
		{"under a White at the top", "w|d(a=fy)", "a", false},
		{"under no Kind at the top", "n|d(a=fy)", "a", false},
		{"a File between", "d(a=fx)|f|d(a=fy)", "a", false},
		{"through nothing", "d|d(b=fy)", "a b", false},
		{"twice in a lower: the first", "d(a=fx)|d(a=w a=fy)", "a", false},
		{"the name goes in its own place alone", "d(b=d)|d(b=d(b=fx))", "b b", true},
		{"the name stays on the way", "d(b=D(b=fy))|d(b=d(b=fx))", "b b", false},
	} {
		if got := merge.Below(layers(x.layers), names(x.names)); got != x.want {
			t.Errorf("%s: Below(%s; %s): %v", x.name, x.layers, x.names, got)
		}
	}
}
