package box_test

import (
	"fmt"
	"slices"
	"testing"

	"idshift/api"
	"idshift/box"
)

// roomy: a list with more behind its end.
func roomy[T any](l []T, more ...T) []T { return append(slices.Clone(l), more...)[:len(l)] }

// roomyNode: the same node in lists that have more behind their ends, which would alter every answer.
func roomyNode(n api.Node) api.Node {
	n.Attrs = roomy(n.Attrs, api.Attr{Name: "behind"})
	kids := roomy(n.Kids, api.Kid{Name: "a", Node: node("d(b=f)")}, api.Kid{Name: "z", Node: node("f'z")})
	for i := range kids {
		kids[i].Node = roomyNode(kids[i].Node)
	}
	n.Kids = kids
	return n
}

func roomyAll(l []api.Node) []api.Node {
	var all []api.Node
	for _, n := range l {
		all = append(all, roomyNode(n))
	}
	return roomy(all, node("d(a=d(b=f) z=f'z)"))
}

func roomyConfig(c api.Config) api.Config {
	more := api.Range{In: 20, Out: 60000, Count: 100}
	c.Maps.Users, c.Maps.Groups = roomy(c.Maps.Users, more), roomy(c.Maps.Groups, more)
	c.Cred.Groups, c.Lowers = roomy(c.Cred.Groups, 9, 11), roomy(c.Lowers, 1, 2)
	return c
}

// wholeNode: all that stands in a node's memory, also behind the ends of its lists.
func wholeNode(n api.Node) string {
	s := fmt.Sprintf("%d %d %d %d %v %q %d %d %q", n.Kind, n.Mode, n.User, n.Group, n.Opaque, n.Data, len(n.Attrs), len(n.Kids), n.Attrs[:cap(n.Attrs)])
	for _, k := range n.Kids[:cap(n.Kids)] {
		s += fmt.Sprintf(" %q {%s}", k.Name, wholeNode(k.Node))
	}
	return s
}

// whole: all that stands in what is handed in.
func whole(c api.Config, lowers []api.Node) string {
	s := fmt.Sprint(c.Maps.Users[:cap(c.Maps.Users)], c.Maps.Groups[:cap(c.Maps.Groups)], c.Cred, c.Cred.Groups[:cap(c.Cred.Groups)], c.Quota, c.Lowers[:cap(c.Lowers)], len(lowers))
	for _, n := range lowers[:cap(lowers)] {
		s += "|" + wholeNode(n)
	}
	return s
}

// spoilNode: all of a node's memory.
func spoilNode(n api.Node) {
	for i := range n.Attrs[:cap(n.Attrs)] {
		n.Attrs[:cap(n.Attrs)][i] = api.Attr{Name: "spoilt"}
	}
	kids := n.Kids[:cap(n.Kids)]
	for i := range kids {
		spoilNode(kids[i].Node)
		kids[i] = api.Kid{Name: "spoilt", Node: api.Node{Kind: 77}}
	}
}

func spoil(c api.Config, lowers []api.Node) {
	clear(c.Maps.Users[:cap(c.Maps.Users)])
	clear(c.Maps.Groups[:cap(c.Maps.Groups)])
	spoilInts(c.Cred.Groups)
	spoilInts(c.Lowers)
	for i := range lowers[:cap(lowers)] {
		spoilNode(lowers[:cap(lowers)][i])
		lowers[:cap(lowers)][i] = api.Node{Kind: 77}
	}
}

func spoilInts(l []int) {
	for i := range l[:cap(l)] {
		l[:cap(l)][i] = 77
	}
}

func spoilNames(l []string) {
	for i := range l[:cap(l)] {
		l[:cap(l)][i] = "spoilt"
	}
}

// places in memory that a node's lists have, also behind their ends; how often each.
func places(n api.Node, seen map[any]int) {
	attrs, kids := n.Attrs[:cap(n.Attrs)], n.Kids[:cap(n.Kids)]
	for i := range attrs {
		seen[&attrs[i]]++
	}
	for i := range kids {
		seen[&kids[i]]++
		if seen[&kids[i]] == 1 {
			places(kids[i].Node, seen)
		}
	}
}

func placesOf[T any](l []T, seen map[any]int) {
	for i := range l[:cap(l)] {
		seen[&l[:cap(l)][i]]++
	}
}

// lowersHere, and a config, of which boxes are made here.
func lowersHere() []api.Node {
	return trees("d(a=f:1.2[t.a~1,u.a~2]'x d=d:3.4[u.b~1](e=d(f=f[u.c~3]) g=f:2.2 h=f) i=f)|d(d=d(g=f k=f[u.d~4]'k))")
}

func configHere() api.Config {
	c := config(who(1, 2, 15, 3, 4), 40)
	c.Lowers = []int{4, 3}
	return c
}

// lives: what a box answers to calls of all kinds, and what it is then.
func lives(b *box.Box) string {
	s := ""
	for _, line := range []string{
		"stat /d", "list /d", "read /a", "put /d/g 644 new", "put /n 644 new", "make /m 755", "remove /a", "make /a 700", "move /n /a/n", "mode /d/e/f 600", "own /d/h 3 4", "set /d/k u.e 5",
		"drop /d/k u.d", "get /d/k u.e", "list /", "list /d", "charge", "put /q 644 *201", "move /d /x", "be 3 9", "be 3 4", "own /i 15 1",
	} {
		told, err := b.Do(call(line))
		s += fmt.Sprintf("%+v %v;", told, err)
	}
	return s + fmt.Sprint(b.Cred(), b.Upper(), b.Flat(), b.Bytes())
}

// made: boxes of the calls that make some, of what is handed in.
func made(t *testing.T, c api.Config, lowers []api.Node) map[string]*box.Box {
	t.Helper()
	if err := box.Check(c, lowers); err != nil {
		t.Fatal(err)
	}
	n, err := box.New(c, lowers)
	if err != nil {
		t.Fatal(err)
	}
	l, err := box.Load(c, lowers, n.Bytes())
	if err != nil {
		t.Fatal(err)
	}
	return map[string]*box.Box{"New": n, "Load": l, "Copy": n.Copy()}
}

// What is handed in is not written into, nor is what stands behind it read; and it isn't kept: whatever becomes of it, the box stays.
func TestZ2HandedIn(t *testing.T) {
	want := lives(made(t, configHere(), lowersHere())["New"])
	c, lowers := roomyConfig(configHere()), roomyAll(lowersHere())
	before := whole(c, lowers)
	for name, b := range made(t, c, lowers) {
		if got := lives(b); got != want {
			t.Errorf("%s: %s, not %s", name, got, want)
		}
	}
	if got := whole(c, lowers); got != before {
		t.Errorf("what was handed in is written into: %s, not %s", got, before)
	}
	later := made(t, c, lowers)
	spoil(c, lowers)
	for name, b := range later {
		if got := lives(b); got != want {
			t.Errorf("%s: what was handed in is kept: %s, not %s", name, got, want)
		}
	}
}

// With an error nothing is written into either.
func TestZ2HandedInWithErrors(t *testing.T) {
	for _, f := range faults() {
		c, lowers := roomyConfig(configHere()), roomyAll(lowersHere())
		f.make(&c, &lowers)
		before := whole(c, lowers)
		asked(t, f.name, c, lowers, f.err)
		if got := whole(c, lowers); got != before {
			t.Errorf("%s: what was handed in is written into: %s, not %s", f.name, got, before)
		}
	}
}

// outcome: all lists that a box, and a Copy of it, hand out.
func outcome(t *testing.T, b *box.Box, seen map[any]int) {
	t.Helper()
	for _, x := range []*box.Box{b, b.Copy()} {
		places(x.Upper(), seen)
		places(x.Flat(), seen)
		placesOf(x.Cred().Groups, seen)
		for _, line := range []string{"list /", "list /d", "list /d"} {
			told, err := x.Do(call(line))
			if err != nil || len(told.Names) == 0 {
				t.Fatalf("%s: %v, %v", line, told, err)
			}
			placesOf(told.Names, seen)
		}
	}
}

// What comes out is the caller's: no list of it shares memory with another, nor with what was handed in.
func TestZ2Fresh(t *testing.T) {
	c, lowers := configHere(), lowersHere()
	seen := map[any]int{}
	for _, n := range lowers {
		places(n, seen)
	}
	placesOf(c.Cred.Groups, seen)
	b := made(t, c, lowers)["New"]
	outcome(t, b, seen)
	for _, line := range []string{"put /d/g 644 new", "set /d/k u.e 5", "remove /a", "move /d/h /d/j"} {
		do(t, scene{b, nil}, line, call(line), api.Told{}, nil)
		outcome(t, b, seen)
	}
	for place, times := range seen {
		if times > 1 {
			t.Fatalf("%v comes out %d times", place, times)
		}
	}
}

// What becomes of what came out is nothing to the box, nor to its Copy.
func TestZ2ComesOut(t *testing.T) {
	want := lives(made(t, configHere(), lowersHere())["New"])
	for name, b := range made(t, configHere(), lowersHere()) {
		other := b.Copy()
		for _, x := range []*box.Box{b, other} {
			spoilNode(x.Upper())
			spoilNode(x.Flat())
			spoilInts(x.Cred().Groups)
			told, _ := x.Do(call("list /d"))
			spoilNames(told.Names)
		}
		if got := lives(b); got != want {
			t.Errorf("%s: %s, not %s", name, got, want)
		}
		for _, x := range []*box.Box{b, b.Copy()} {
			spoilNode(x.Upper())
			spoilNode(x.Flat())
			spoilInts(x.Cred().Groups)
		}
		if got := lives(other); got != want {
			t.Errorf("the Copy of %s: %s, not %s", name, got, want)
		}
		if got, again := lives(b), lives(b.Copy()); got == want || again == want {
			t.Errorf("%s: the calls change nothing", name)
		}
	}
}
