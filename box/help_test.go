package box_test

import (
	"fmt"
	"slices"
	"strconv"
	"strings"
	"testing"

	"idshift/api"
	"idshift/box"
	"idshift/idmap"
	"idshift/merge"
)

// idMaps of the tests: users 0 to 9 and 10 to 14, groups 0 to 7. A user's number outside is no group's, so that none stands for the other.
func idMaps() api.Maps {
	return api.Maps{
		Users:  []api.Range{{In: 0, Out: 1000, Count: 10}, {In: 10, Out: 5000, Count: 5}},
		Groups: []api.Range{{In: 0, Out: 2000, Count: 8}},
	}
}

// who asks: ids, capabilities, further groups.
func who(user, group, caps int, groups ...int) api.Cred {
	return api.Cred{User: user, Group: group, Caps: caps, Groups: groups}
}

// admin: one who can do all.
func admin() api.Cred { return who(0, 0, api.AllCaps) }

func config(c api.Cred, quota int) api.Config {
	return api.Config{Maps: idMaps(), Cred: c, Quota: quota}
}

// scene: a box, and the lowers that it is over.
type scene struct {
	*box.Box
	lowers []api.Node
}

// start a box over lowers, which are texts with '|' between.
func start(t *testing.T, c api.Cred, quota int, lowers string) scene {
	t.Helper()
	b, err := box.New(config(c, quota), trees(lowers))
	if err != nil {
		t.Fatalf("New(%v, %d, %s): %v", c, quota, lowers, err)
	}
	return scene{b, trees(lowers)}
}

// copied: a Copy of the box.
func (b scene) copied() scene { return scene{b.Copy(), b.lowers} }

// trees of a text, with '|' between.
func trees(s string) []api.Node {
	var l []api.Node
	for _, x := range strings.FieldsFunc(s, func(r rune) bool { return r == '|' }) {
		l = append(l, node(strings.TrimSpace(x)))
	}
	return l
}

// node of a text: d, f or w (a capital: Opaque), Mode to the base 8 (none: 755 of a directory, 644 of a file), ':' and ids, attributes in brackets, "'" and Data, kids in parentheses: "d(a=f:1.2[u.x~1,u.y~2]'hi b=D1777(c=w))".
func node(s string) api.Node {
	n, rest := readNode(s)
	if rest != "" {
		panic("behind a node: " + rest)
	}
	return n
}

func readNode(s string) (api.Node, string) {
	n := api.Node{Kind: strings.IndexByte(" fdw", strings.ToLower(s)[0]), Opaque: s[0] < 'a'}
	s = s[1:]
	digits, s := until(s, ":['() ")
	if mode, err := strconv.ParseInt(digits, 8, 64); err == nil {
		n.Mode = int(mode)
	} else {
		n.Mode = []int{0, 0o644, 0o755, 0}[n.Kind]
	}
	var word string
	if strings.HasPrefix(s, ":") {
		word, s = until(s[1:], "['() ")
		n.User, n.Group = pair(word)
	}
	if strings.HasPrefix(s, "[") {
		word, s = until(s[1:], "]")
		s = s[1:]
		for _, a := range strings.Split(word, ",") {
			name, value, _ := strings.Cut(a, "~")
			n.Attrs = append(n.Attrs, api.Attr{Name: name, Value: value})
		}
	}
	if strings.HasPrefix(s, "'") {
		n.Data, s = until(s[1:], "() ")
	}
	if strings.HasPrefix(s, "(") {
		n.Kids, s = readKids(s[1:])
	}
	return n, s
}

func readKids(s string) ([]api.Kid, string) {
	var l []api.Kid
	for ; s[0] != ')'; s = strings.TrimPrefix(s, " ") {
		name, rest, _ := strings.Cut(s, "=")
		k := api.Kid{Name: name}
		k.Node, s = readNode(rest)
		l = append(l, k)
	}
	slices.SortFunc(l, func(a, b api.Kid) int { return strings.Compare(a.Name, b.Name) })
	return l, s[1:]
}

// until one of these bytes: what is ahead, and the rest.
func until(s, ends string) (string, string) {
	i := strings.IndexAny(s, ends)
	if i < 0 {
		i = len(s)
	}
	return s[:i], s[i:]
}

func pair(s string) (int, int) {
	a, b, _ := strings.Cut(s, ".")
	x, _ := strconv.Atoi(a)
	y, _ := strconv.Atoi(b)
	return x, y
}

// tell a node in the same way; all that a text may leave out is left out.
func tell(n api.Node) string {
	s := string(" fdw"[n.Kind])
	if n.Opaque {
		s = strings.ToUpper(s)
	}
	if n.Mode != []int{0, 0o644, 0o755, 0}[n.Kind] {
		s += fmt.Sprintf("%o", n.Mode)
	}
	if n.User != 0 || n.Group != 0 {
		s += fmt.Sprintf(":%d.%d", n.User, n.Group)
	}
	var attrs, kids []string
	for _, a := range n.Attrs {
		attrs = append(attrs, a.Name+"~"+a.Value)
	}
	if attrs != nil {
		s += "[" + strings.Join(attrs, ",") + "]"
	}
	if n.Data != "" {
		s += "'" + n.Data
	}
	for _, k := range n.Kids {
		kids = append(kids, k.Name+"="+tell(k.Node))
	}
	if kids != nil {
		s += "(" + strings.Join(kids, " ") + ")"
	}
	return s
}

// within: an upper's nodes with their ids as they are within; -1: the maps of the tests don't have it.
func within(n api.Node) api.Node {
	if n.Kind != api.White {
		n.User, n.Group = inner(idMaps().Users, n.User), inner(idMaps().Groups, n.Group)
	}
	n.Kids = slices.Clone(n.Kids)
	for i := range n.Kids {
		n.Kids[i].Node = within(n.Kids[i].Node)
	}
	return n
}

func inner(m []api.Range, id int) int {
	if x, has := idmap.FromHost(m, id); has {
		return x
	}
	return -1
}

// same: are both the same? (An empty list may be nil or not.)
func same(a, b api.Node) bool {
	return a.Kind == b.Kind && a.Mode == b.Mode && a.User == b.User && a.Group == b.Group && a.Opaque == b.Opaque && a.Data == b.Data &&
		slices.Equal(a.Attrs, b.Attrs) &&
		slices.EqualFunc(a.Kids, b.Kids, func(x, y api.Kid) bool { return x.Name == y.Name && same(x.Node, y.Node) })
}

func sameCred(a, b api.Cred) bool {
	return a.User == b.User && a.Group == b.Group && a.Caps == b.Caps && slices.Equal(a.Groups, b.Groups)
}

func sameTold(a, b api.Told) bool {
	return a.Kind == b.Kind && a.Mode == b.Mode && a.User == b.User && a.Group == b.Group && a.Size == b.Size && a.Data == b.Data && slices.Equal(a.Names, b.Names)
}

// errs: errors by their names.
func errs() map[string]api.Errno {
	return map[string]api.Errno{
		"bound": api.ErrBound, "many": api.ErrMany, "shape": api.ErrShape, "name": api.ErrName, "none": api.ErrNone, "exist": api.ErrExist, "kind": api.ErrKind, "filled": api.ErrFilled,
		"access": api.ErrAccess, "perm": api.ErrPerm, "unmapped": api.ErrUnmapped, "quota": api.ErrQuota, "cross": api.ErrCross, "held": api.ErrHeld,
	}
}

// ops: calls by their names, and what each of them asks, a letter a field: Path, Other, Name, Data, Mode (A), ids (A and B).
func ops() map[string]struct {
	op   int
	asks string
} {
	return map[string]struct {
		op   int
		asks string
	}{
		"stat": {api.CallStat, "P"}, "list": {api.CallList, "P"}, "read": {api.CallRead, "P"}, "put": {api.CallPut, "PMD"}, "make": {api.CallMake, "PM"},
		"remove": {api.CallRemove, "P"}, "move": {api.CallMove, "PO"}, "mode": {api.CallMode, "PM"}, "own": {api.CallOwn, "PAB"}, "set": {api.CallSet, "PND"},
		"drop": {api.CallDrop, "PN"}, "get": {api.CallGet, "PN"}, "be": {api.CallBe, "AB"}, "charge": {api.CallCharge, ""},
	}
}

// call of a line: a name, and what it asks: modes to the base 8, Data as it is, "-" for none, "*N" for N bytes. What it doesn't ask is wrong, so that it is seen if it is looked at.
func call(line string) api.Call {
	words := strings.Fields(line)
	o, is := ops()[words[0]]
	if !is || len(words) != 1+len(o.asks) {
		panic("no call: " + line)
	}
	c := api.Call{Op: o.op, Path: "//", Other: "none", Name: "x", Data: strings.Repeat("?", 300), A: -77, B: 70000}
	for i, ask := range o.asks {
		w := words[i+1]
		switch ask {
		case 'P':
			c.Path = bare(w)
		case 'O':
			c.Other = bare(w)
		case 'N':
			c.Name = bare(w)
		case 'D':
			c.Data = bare(w)
		case 'M':
			m, err := strconv.ParseInt(w, 8, 64)
			if err != nil {
				panic(line)
			}
			c.A = int(m)
		case 'A':
			c.A, _ = strconv.Atoi(w)
		case 'B':
			c.B, _ = strconv.Atoi(w)
		}
	}
	return c
}

func bare(w string) string {
	if w == "-" {
		return ""
	}
	if n, err := strconv.Atoi(strings.TrimPrefix(w, "*")); err == nil && w[0] == '*' {
		return strings.Repeat("z", n)
	}
	return w
}

// answer: what a call's answer should be; of one that tells nothing "ok" is wanted.
func answer(t *testing.T, op int, s string) (api.Told, error) {
	t.Helper()
	if e, is := errs()[s]; is {
		return api.Told{}, e
	}
	var a api.Told
	switch op {
	case api.CallStat:
		words := strings.Fields(s)
		mode, _ := strconv.ParseInt(words[1], 8, 64)
		a.Kind, a.Mode = strings.Index(" fd", words[0]), int(mode)
		a.User, a.Group = pair(words[2])
		a.Size, _ = strconv.Atoi(words[3])
	case api.CallList:
		a.Names = strings.Fields(bare(s))
	case api.CallRead, api.CallGet:
		a.Data = bare(s)
	case api.CallCharge:
		a.Size, _ = strconv.Atoi(s)
	default:
		if s != "ok" {
			t.Fatalf("no answer: %s", s)
		}
	}
	return a, nil
}

// play lines, "call => answer" each; "upper =>" (ids as within), "flat =>" and "cred =>" tell what the box is then. Behind each the box is held against what holds always.
func play(t *testing.T, b scene, lines string) {
	t.Helper()
	for _, line := range strings.Split(lines, "\n") {
		if line = strings.TrimSpace(line); line == "" {
			continue
		}
		ask, want, _ := strings.Cut(line, " => ")
		switch ask {
		case "upper":
			if got := tell(within(b.Upper())); got != want {
				t.Errorf("upper: %s, not %s", got, want)
			}
		case "flat":
			if got := tell(b.Flat()); got != want {
				t.Errorf("flat: %s, not %s", got, want)
			}
		case "cred":
			c := b.Cred()
			if got := fmt.Sprint(c.User, ".", c.Group, " ", c.Caps, " ", c.Groups); got != want {
				t.Errorf("cred: %s, not %s", got, want)
			}
		default:
			c := call(ask)
			told, wrong := answer(t, c.Op, want)
			do(t, b, ask, c, told, wrong)
			kept(t, b, ask)
		}
	}
}

// do a call, of which that is wanted; one with an error has changed nothing.
func do(t *testing.T, b scene, what string, c api.Call, told api.Told, wrong error) {
	t.Helper()
	before := b.Bytes()
	got, err := b.Do(c)
	if err != wrong || !sameTold(got, told) {
		t.Errorf("%s: %+v, %v, not %+v, %v", what, got, err, told, wrong)
	}
	if after := b.Bytes(); err != nil && after != before {
		t.Errorf("%s: %v, but something has changed: %q, not %q", what, err, after, before)
	}
}

// kept (W2): the upper's nodes are of ids that the maps have, and a White stands only where something would be seen else.
func kept(t *testing.T, b scene, what string) {
	t.Helper()
	layers := append([]api.Node{b.Upper()}, b.lowers...)
	each(layers[0], nil, func(names []string, n api.Node) {
		if n.Kind == api.White {
			if !merge.Below(layers, names) {
				t.Errorf("behind %s: the White at %q hides nothing", what, names)
			}
			return
		}
		if inner(idMaps().Users, n.User) < 0 || inner(idMaps().Groups, n.Group) < 0 {
			t.Errorf("behind %s: %q is owned by %d, %d", what, names, n.User, n.Group)
		}
	})
}

// each node of a tree, with its names.
func each(n api.Node, names []string, f func(names []string, n api.Node)) {
	f(names, n)
	for _, k := range n.Kids {
		each(k.Node, append(slices.Clone(names), k.Name), f)
	}
}
