package attr_test

import (
	"maps"
	"slices"
	"testing"

	"idshift/api"
	"idshift/attr"
)

// names that rise; each subset of them, up to MaxAttrs, is a list that is right.
var names = []string{"t.-", "t.a", "t.aa", "t.b", "u.0", "u.a", "u.a."}

// subset: the names whose bits are set, with values.
func subset(bits int) map[string]string {
	m := map[string]string{}
	for i, name := range names {
		if bits>>i&1 == 1 {
			m[name] = value(i * 3)
		}
	}
	return m
}

// rising: what a map has, as a list.
func rising(m map[string]string) []api.Attr {
	var l []api.Attr
	for _, name := range slices.Sorted(maps.Keys(m)) {
		l = append(l, api.Attr{Name: name, Value: m[name]})
	}
	return l
}

// A list is a map of names to values: what Get, Set and Drop do with one, they do with the other.
func TestA2AsAMap(t *testing.T) {
	for bits := range 1 << len(names) {
		l := rising(subset(bits))
		if len(l) > api.MaxAttrs {
			if err := attr.Check(l); err != api.ErrMany {
				t.Errorf("Check(%q): %v", l, err)
			}
			continue
		}
		if err := attr.Check(l); err != nil {
			t.Errorf("Check(%q): %v", l, err)
		}
		for _, name := range names {
			getLikeAMap(t, l, subset(bits), name)
			setLikeAMap(t, l, subset(bits), name)
			dropLikeAMap(t, l, subset(bits), name)
		}
	}
}

func getLikeAMap(t *testing.T, l []api.Attr, m map[string]string, name string) {
	t.Helper()
	want, there := m[name]
	got, err := attr.Get(l, name)
	if got != want || there != (err == nil) || !there && err != api.ErrNone {
		t.Errorf("Get(%q, %q): %q, %v", l, name, got, err)
	}
}

func setLikeAMap(t *testing.T, l []api.Attr, m map[string]string, name string) {
	t.Helper()
	m[name] = "new"
	got, err := attr.Set(l, name, "new")
	if len(m) > api.MaxAttrs {
		if len(got) != 0 || err != api.ErrMany {
			t.Errorf("Set(%q, %q): %q, %v", l, name, got, err)
		}
		return
	}
	if err != nil || !slices.Equal(got, rising(m)) || attr.Check(got) != nil {
		t.Errorf("Set(%q, %q): %q, %v", l, name, got, err)
	}
}

func dropLikeAMap(t *testing.T, l []api.Attr, m map[string]string, name string) {
	t.Helper()
	_, there := m[name]
	delete(m, name)
	got, err := attr.Drop(l, name)
	if !there {
		if len(got) != 0 || err != api.ErrNone {
			t.Errorf("Drop(%q, %q): %q, %v", l, name, got, err)
		}
		return
	}
	if err != nil || !slices.Equal(got, rising(m)) || attr.Check(got) != nil {
		t.Errorf("Drop(%q, %q): %q, %v", l, name, got, err)
	}
}
