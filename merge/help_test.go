package merge_test

import (
	"slices"
	"strings"

	"idshift/api"
)

// kinds of nodes as the tests write them; Opaque ones are capitals.
const (
	letters = "fdwn"
	none    = 9
)

func kindOf(letter byte) int {
	return []int{api.File, api.Dir, api.White, none}[strings.IndexByte(letters, letter)]
}

func letterOf(kind int) byte {
	return letters[slices.Index([]int{api.File, api.Dir, api.White, none}, kind)]
}

// node of a text: a letter, Data, and in brackets kids, with blanks between: "d(a=fx b=D(c=w))".
func node(s string) api.Node {
	n, rest := read(s)
	if rest != "" {
		panic("behind a node: " + rest)
	}
	return n
}

func read(s string) (api.Node, string) {
	letter := strings.ToLower(s[:1])
	n := api.Node{Kind: kindOf(letter[0]), Opaque: letter != s[:1]}
	end := strings.IndexAny(s+" ", " ()")
	n.Data, s = s[1:end], s[end:]
	if !strings.HasPrefix(s, "(") {
		return n, s
	}
	for s = s[1:]; s[0] != ')'; s = strings.TrimPrefix(s, " ") {
		name, rest, _ := strings.Cut(s, "=")
		k := api.Kid{Name: name}
		k.Node, s = read(rest)
		n.Kids = append(n.Kids, k)
	}
	return n, s[1:]
}

// tell a node in the same way.
func tell(n api.Node) string {
	s := string(letterOf(n.Kind))
	if n.Opaque {
		s = strings.ToUpper(s)
	}
	s += n.Data
	if len(n.Kids) == 0 {
		return s
	}
	var kids []string
	for _, k := range n.Kids {
		kids = append(kids, k.Name+"="+tell(k.Node))
	}
	return s + "(" + strings.Join(kids, " ") + ")"
}

// layers of texts, the top one first, with '|' between.
func layers(s string) []api.Node {
	var l []api.Node
	if s == "" {
		return l
	}
	for _, x := range strings.Split(s, "|") {
		l = append(l, node(strings.TrimSpace(x)))
	}
	return l
}

// names with blanks between; "=" stands for an empty one.
func names(s string) []string {
	l := strings.Fields(s)
	for i, name := range l {
		if name == "=" {
			l[i] = ""
		}
	}
	return l
}

// same: are both the same? (An empty list may be nil or not.)
func same(a, b api.Node) bool {
	return a.Kind == b.Kind && a.Mode == b.Mode && a.User == b.User && a.Group == b.Group && a.Opaque == b.Opaque && a.Data == b.Data &&
		slices.Equal(a.Attrs, b.Attrs) &&
		slices.EqualFunc(a.Kids, b.Kids, func(x, y api.Kid) bool { return x.Name == y.Name && same(x.Node, y.Node) })
}

// zero: is it the zero value?
func zero(n api.Node) bool { return same(n, api.Node{}) }

// full: a node that has something of all that a node may have, apart from others by a number.
func full(kind, number int, kids ...api.Kid) api.Node {
	text := string(rune('A' + number))
	return api.Node{
		Kind: kind, Mode: 100 + number, User: 200 + number, Group: 300 + number, Data: text,
		Attrs: []api.Attr{{Name: "t." + text, Value: "1"}, {Name: "u." + text, Value: "2"}}, Kids: kids,
	}
}

func kid(name string, n api.Node) api.Kid { return api.Kid{Name: name, Node: n} }
