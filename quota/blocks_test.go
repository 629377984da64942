package quota_test

import (
	"fmt"
	"runtime/debug"
	"slices"
	"strings"
	"testing"

	"idshift/api"
	"idshift/quota"
	"idshift/tree"
)

// sized: a tree of so many bytes, at least 20 (those of '/', of a File's name, and of an empty File).
func sized(t *testing.T, bytes int) api.Node {
	t.Helper()
	n := api.Node{Kind: api.Dir, Mode: 493}
	for i := range 20 {
		n.Kids = append(n.Kids, api.Kid{Name: string(rune('a' + i)), Node: api.Node{Kind: api.File}})
		if rest := bytes - tree.Size(n); rest <= api.MaxData {
			n.Kids[i].Node.Data = strings.Repeat("x", rest)
			break
		}
		n.Kids[i].Node.Data = strings.Repeat("x", api.MaxData-20)
	}
	if tree.Size(n) != bytes {
		t.Fatalf("%d bytes, not %d", tree.Size(n), bytes)
	}
	return n
}

func TestQ1Blocks(t *testing.T) {
	if got := quota.Blocks(api.Node{Kind: api.Dir}); got != 1 {
		t.Errorf("the smallest tree: %d", got)
	}
	for bytes := 22; bytes <= 3000; bytes++ {
		want := bytes / 64
		if bytes%64 > 0 {
			want++
		}
		if got := quota.Blocks(sized(t, bytes)); got != want {
			t.Errorf("%d bytes: %d, not %d", bytes, got, want)
		}
	}
	for bytes, want := range map[int]int{63: 1, 64: 1, 65: 2, 127: 2, 128: 2, 129: 3, 640: 10, 641: 11} {
		if got := quota.Blocks(sized(t, bytes)); got != want {
			t.Errorf("%d bytes: %d, not %d", bytes, got, want)
		}
	}
}

// An upper's tree has bytes too, with Whites and what is Opaque.
func TestQ1Upper(t *testing.T) {
	n := api.Node{Kind: api.Dir, Kids: []api.Kid{
		{Name: "a", Node: api.Node{Kind: api.White}},
		{Name: "b", Node: api.Node{Kind: api.Dir, Opaque: true, Attrs: []api.Attr{{Name: "u.a", Value: strings.Repeat("v", 20)}}}},
		{Name: "c", Node: api.Node{Kind: api.White}},
	}}
	if size := tree.Size(n); size != 71 || quota.Blocks(n) != 2 {
		t.Errorf("%d bytes: %d", size, quota.Blocks(n))
	}
}

// What has no bytes takes no blocks.
func TestQ1WhatMayNotBe(t *testing.T) {
	many := api.Node{Kind: api.Dir, Kids: slices.Repeat([]api.Kid{{Name: "a", Node: api.Node{Kind: api.File}}}, 70)}
	for _, n := range []api.Node{
		{}, {Kind: api.File, Data: "x"}, {Kind: api.White}, {Kind: -1}, {Kind: api.Dir, Mode: -1}, {Kind: api.Dir, Opaque: true}, {Kind: api.Dir, Data: "x"},
		{Kind: api.Dir, User: api.MaxID + 1}, {Kind: api.Dir, Attrs: []api.Attr{{}}}, {Kind: api.Dir, Kids: []api.Kid{{Name: "A"}}}, many,
	} {
		if got := quota.Blocks(n); got != 0 {
			t.Errorf("%v: %d", n, got)
		}
	}
}

func TestZ1BlocksOfDeepNodes(t *testing.T) {
	old := debug.SetMaxStack(1 << 20)
	defer debug.SetMaxStack(old)
	n := api.Node{Kind: api.File}
	for range 200000 {
		n = api.Node{Kind: api.Dir, Kids: []api.Kid{{Name: "a", Node: n}}}
	}
	if got := quota.Blocks(n); got != 0 {
		t.Errorf("%d", got)
	}
}

// What is handed in is not written into, nor is what stands behind it read.
func TestZ2Blocks(t *testing.T) {
	n := api.Node{Kind: api.Dir, Attrs: []api.Attr{{Name: "t.a"}, {Name: "u.a"}, {Name: "bad"}}, Kids: []api.Kid{
		{Name: "b", Node: api.Node{Kind: api.File, Data: strings.Repeat("x", 20)}},
		{Name: "c", Node: api.Node{Kind: api.Dir, Kids: []api.Kid{{Name: "A"}}}},
		{Name: "a", Node: api.Node{Kind: 7}},
	}}
	before := fmt.Sprint(n)
	less := n
	less.Attrs, less.Kids = n.Attrs[:2], n.Kids[:1]
	if got := quota.Blocks(less); got != 1 || fmt.Sprint(n) != before {
		t.Errorf("%d, %v", got, n)
	}
	less.Kids[0].Node.Data = strings.Repeat("x", 60)
	if got := quota.Blocks(less); got != 2 {
		t.Errorf("asked again: %d", got)
	}
}
