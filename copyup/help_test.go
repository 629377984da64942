package copyup_test

import (
	"fmt"
	"slices"
	"strconv"
	"strings"

	"idshift/api"
)

// outside: how far ids outside are from those within, in the maps of the tests.
const outside = 1000

// maps: users 0 to 9, groups 0 to 4.
func maps() api.Maps {
	return api.Maps{Users: []api.Range{{In: 0, Out: outside, Count: 10}}, Groups: []api.Range{{In: 0, Out: outside, Count: 5}}}
}

// kinds of nodes as the tests write them; Opaque ones are capitals.
const (
	letters = "fdwn"
	none    = 9
)

func kindOf(letter byte) int {
	return []int{api.File, api.Dir, api.White, none}[strings.IndexByte(letters, letter)]
}

func letterOf(kind int) byte {
	return letters[slices.Index([]int{api.File, api.Dir, api.White, none}, kind)]
}

// node of a text: a letter, Data, ':' and its ids, if they aren't 0, and in brackets kids, with blanks between: "d(a=fx:3.4 b=D(c=w))".
func node(s string) api.Node {
	n, rest := read(s)
	if rest != "" {
		panic("behind a node: " + rest)
	}
	return n
}

func read(s string) (api.Node, string) {
	letter := strings.ToLower(s[:1])
	n := api.Node{Kind: kindOf(letter[0]), Opaque: letter != s[:1]}
	end := strings.IndexAny(s+" ", " ()")
	data, ids, has := strings.Cut(s[1:end], ":")
	n.Data, s = data, s[end:]
	if user, group, _ := strings.Cut(ids, "."); has {
		n.User, _ = strconv.Atoi(user)
		n.Group, _ = strconv.Atoi(group)
	}
	if !strings.HasPrefix(s, "(") {
		return n, s
	}
	for s = s[1:]; s[0] != ')'; s = strings.TrimPrefix(s, " ") {
		name, rest, _ := strings.Cut(s, "=")
		k := api.Kid{Name: name}
		k.Node, s = read(rest)
		n.Kids = append(n.Kids, k)
	}
	return n, s[1:]
}

// tell a node in the same way.
func tell(n api.Node) string {
	s := string(letterOf(n.Kind))
	if n.Opaque {
		s = strings.ToUpper(s)
	}
	s += n.Data
	if n.User != 0 || n.Group != 0 {
		s += fmt.Sprintf(":%d.%d", n.User, n.Group)
	}
	if len(n.Kids) == 0 {
		return s
	}
	var kids []string
	for _, k := range n.Kids {
		kids = append(kids, k.Name+"="+tell(k.Node))
	}
	return s + "(" + strings.Join(kids, " ") + ")"
}

// moved: a node with all ids so much higher, but those of Whites.
func moved(n api.Node, by int) api.Node {
	if n.Kind != api.White {
		n.User, n.Group = n.User+by, n.Group+by
	}
	n.Kids = slices.Clone(n.Kids)
	for i := range n.Kids {
		n.Kids[i].Node = moved(n.Kids[i].Node, by)
	}
	return n
}

// layers of texts, the top one first, with '|' between; all ids are written as within, those of the upper then become as outside.
func layers(s string) []api.Node {
	var l []api.Node
	if s == "" {
		return l
	}
	for i, x := range strings.Split(s, "|") {
		n := node(strings.TrimSpace(x))
		if i == 0 {
			n = moved(n, outside)
		}
		l = append(l, n)
	}
	return l
}

// names with blanks between; "=" stands for an empty one.
func names(s string) []string {
	l := strings.Fields(s)
	for i, name := range l {
		if name == "=" {
			l[i] = ""
		}
	}
	return l
}

// same: are both the same? (An empty list may be nil or not.)
func same(a, b api.Node) bool {
	return a.Kind == b.Kind && a.Mode == b.Mode && a.User == b.User && a.Group == b.Group && a.Opaque == b.Opaque && a.Data == b.Data &&
		slices.Equal(a.Attrs, b.Attrs) &&
		slices.EqualFunc(a.Kids, b.Kids, func(x, y api.Kid) bool { return x.Name == y.Name && same(x.Node, y.Node) })
}

// zero: is it the zero value?
func zero(n api.Node) bool { return same(n, api.Node{}) }

// full: a node that has something of all that a node may have, of these ids.
func full(kind, user, group int, kids ...api.Kid) api.Node {
	text := fmt.Sprint(user, ".", group)
	return api.Node{
		Kind: kind, Mode: 100 + user%100, User: user, Group: group, Data: text,
		Attrs: []api.Attr{{Name: "t." + text, Value: "1"}, {Name: "u." + text, Value: "2"}}, Kids: kids,
	}
}

func kid(name string, n api.Node) api.Kid { return api.Kid{Name: name, Node: n} }

// opaque: the same node, Opaque.
func opaque(n api.Node) api.Node {
	n.Opaque = true
	return n
}
