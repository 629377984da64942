package tree

import "idshift/api"

// opaque: what a Kind has more in bytes, if its node is Opaque.
const opaque = 8

// Bytes of a tree.
func Bytes(n api.Node) (string, error) {
	if err := Check(n, true); err != nil {
		return "", err
	}
	return string(lay(nil, n)), nil
}

// Size: how many bytes.
func Size(n api.Node) int {
	s, _ := Bytes(n)
	return len(s)
}

// Parse bytes.
func Parse(s string, upper bool) (api.Node, error) {
	r := reader{rest: s}
	n := r.node()
	if r.failed || r.rest != "" || Check(n, upper) != nil {
		return api.Node{}, api.ErrText
	}
	return n, nil
}

// lay a node's bytes behind others. It has been checked: all counts go into a byte, all numbers into two.
func lay(b []byte, n api.Node) []byte {
	kind := n.Kind
	if n.Opaque {
		kind += opaque
	}
	b = append(b, byte(kind))
	for _, x := range [...]int{n.Mode, n.User, n.Group} {
		b = append(b, byte(x>>8), byte(x))
	}
	b = append(b, byte(len(n.Attrs)))
	for _, a := range n.Attrs {
		b = layText(layText(b, a.Name), a.Value)
	}
	b = layText(b, n.Data)
	b = append(b, byte(len(n.Kids)))
	for _, k := range n.Kids {
		b = lay(layText(b, k.Name), k.Node)
	}
	return b
}

// layText: in one byte how many bytes, and these.
func layText(b []byte, s string) []byte {
	b = append(b, byte(len(s)))
	return append(b, s...)
}

// reader of bytes: what is left of them, and how many nodes were read. Once it has failed nothing is left, and all it reads is nought.
type reader struct {
	rest   string
	nodes  int
	failed bool
}

func (r *reader) fail() { r.failed, r.rest = true, "" }

// node by node, but no more of them than Check would let a tree have, so that no text, however long, leads deeper than that.
func (r *reader) node() api.Node {
	if r.nodes == api.MaxNodes {
		r.fail()
	}
	r.nodes++
	kind := r.number(1)
	n := api.Node{Kind: kind &^ opaque, Opaque: kind&opaque != 0}
	n.Mode = r.number(2)
	n.User = r.number(2)
	n.Group = r.number(2)
	for range r.number(1) {
		name := r.text()
		n.Attrs = append(n.Attrs, api.Attr{Name: name, Value: r.text()})
	}
	n.Data = r.text()
	for i := r.number(1); i > 0 && !r.failed; i-- {
		name := r.text()
		n.Kids = append(n.Kids, api.Kid{Name: name, Node: r.node()})
	}
	return n
}

// number in so many bytes, the higher first.
func (r *reader) number(bytes int) int {
	x := 0
	for _, b := range []byte(r.take(bytes)) {
		x = x<<8 | int(b)
	}
	return x
}

// text: in one byte how many bytes, and these.
func (r *reader) text() string { return r.take(r.number(1)) }

// take so many bytes.
func (r *reader) take(n int) string {
	if n > len(r.rest) {
		r.fail()
		return ""
	}
	s := r.rest[:n]
	r.rest = r.rest[n:]
	return s
}
