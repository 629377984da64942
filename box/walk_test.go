package box_test

import (
	"fmt"
	"strings"
	"testing"

	"idshift/api"
)

// atPath: calls that ask for what stands At a path, with nothing wrong ahead of it.
func atPath() []string {
	return []string{"stat %s", "list %s", "read %s", "remove %s", "mode %s 600", "own %s 1 1", "own %s -1 -1", "set %s u.a 1", "drop %s u.a", "get %s t.a", "move %s /new", "move %s /no/new"}
}

// toPath: calls whose walk may end where nothing is seen.
func toPath() []string {
	return []string{"put %s 644 x", "make %s 755", "move /file %s"}
}

// tree of the walks: of 1 and 1, who is no other's owner, and is in no other's group.
const walks = "d(file=f777:1.1 go=d711(file=f777:1.1 d=d711) no=d666:1.1(file=f d=d) owner=d677:1.1(file=f) group=d767:0.1(file=f d=d) other=d776(file=f) odd=d776:90.1(file=f) oddgo=d771:90.1(file=f))"

// wrong: what a walk along paths says.
func wrong(t *testing.T, calls []string, all map[string]string) {
	t.Helper()
	b := start(t, who(1, 1, 0), 64, walks+"|d(go=d777(more=f) no=d777(more=f))")
	for p, want := range all {
		for _, c := range calls {
			play(t, b.copied(), fmt.Sprintf(c, p)+" => "+want)
		}
	}
}

func TestB3Walk(t *testing.T) {
	all := map[string]string{
		"-": "name", "file": "name", "//": "name", "/file/": "name", "/A": "name", "/go/..": "name", "/" + strings.Repeat("n", 13): "name",
		"/a/a/a/a/a/a/a": "many", "/no/d/a/a/a/a/a": "many",
		"/file/a": "kind", "/file/a/b": "kind", "/go/file/a": "kind", "/go/more/a": "kind", "/file/file": "kind",
		"/no/file": "access", "/no/a": "access", "/no/a/b": "access", "/no/d/file": "access", "/no/file/a": "access", "/no/more": "access",
		"/owner/file": "access", "/group/file": "access", "/group/d/a": "access", "/other/file": "access", "/odd/file": "access",
		"/a/b": "none", "/a/b/c": "none", "/go/a/b": "none", "/go/d/a/b": "none", "/a/file/a": "none",
	}
	wrong(t, atPath(), all)
	wrong(t, toPath(), all)
	wrong(t, atPath(), map[string]string{"/a": "none", "/go/a": "none", "/go/d/a": "none", "/oddgo/a": "none"})
}

// A walk that comes to its end, at something or not.
func TestB3WalkEnds(t *testing.T) {
	b := start(t, who(1, 1, 0), 64, walks)
	play(t, b, `
		stat / => d 755 1.1 8
		stat /file => f 777 1.1 0
		stat /no => d 666 1.1 2
		stat /go => d 711 0.0 2
		stat /go/file => f 777 1.1 0
		stat /oddgo/file => f 644 0.0 0
		put /a 644 x => ok
		make /b 755 => ok
		make /b/c 755 => ok
		put /b/c/d 644 x => ok
		put /go/a 644 x => access
		make /go/d/a 755 => access
		stat /b/c/d => f 644 1.1 1
	`)
}

// The last one isn't gone through: no right to Go is asked of it.
func TestB3WalkEndsAtTheLast(t *testing.T) {
	b := start(t, who(1, 1, 0), 64, "d(d=d600:1.1(a=f) f=f600:1.1)")
	play(t, b, `
		list /d => a
		stat /d => d 600 1.1 1
		stat /d/a => access
		mode / 600 => ok
		stat / => d 600 1.1 2
		list / => d f
		stat /d => access
		stat /a => access
		put /a 644 x => access
		mode / 100 => ok
		list / => access
		stat /d => d 600 1.1 1
		mode / 700 => ok
		list / => d f
	`)
}

// CapAccess lets one go through directories that are Mapped.
func TestB3WalkByCapability(t *testing.T) {
	b := start(t, who(1, 1, api.CapAccess), 64, "d(a=d0(b=d0:0.7(f=f0'x)) odd=d776:15.0(f=f) odd2=d776:0.8(f=f))")
	play(t, b, `
		read /a/b/f => x
		put /a/b/g 600 y => ok
		read /odd/f => access
		read /odd2/f => access
	`)
	play(t, start(t, who(1, 1, api.AllCaps&^api.CapAccess), 64, "d(a=d0(b=f'x))"), "read /a/b => access")
}

// Rights are those of what is seen: the upper's, ids by the maps, once something has come up; the upper's '/' from the beginning on.
func TestB3WalkThroughLayers(t *testing.T) {
	b := start(t, who(1, 1, 0), 64, "d0:9.7(a=d711:1.1(f=f'1))|d0(a=d0:1.1(f=f'2 g=f'3) b=d700:1.1(h=f:1.1'4))")
	play(t, b, `
		read /a/f => 1
		read /a/g => 3
		mode /a 0 => ok
		read /a/g => access
		mode /b 500 => ok
		read /b/h => 4
		remove /b/h => access
		mode /b 700 => ok
		remove /b/h => ok
		stat /b/h => none
		stat /b/h/a => none
		put /b/h 600 5 => ok
		stat /b/h/a => kind
	`)
}
