package attr_test

import (
	"slices"
	"testing"

	"idshift/api"
	"idshift/attr"
)

// ask all calls of a list, with names ahead of, in, between and behind what it has.
func ask(l []api.Attr) {
	attr.Check(l)
	for _, name := range []string{"t.a", "t.b", "t.c", "t.d", "u.b", "u.d", "u.e", "x"} {
		for _, v := range []string{"w", value(api.MaxValue + 1)} {
			attr.Get(l, name)
			attr.Set(l, name, v)
			attr.Drop(l, name)
		}
	}
}

// What is handed in stays as it was, and so does what stands behind it.
func TestZ2NotWritten(t *testing.T) {
	whole := append(full(), list("u.d", "x")...)
	kept := slices.Clone(whole)
	for n := range len(whole) + 1 {
		ask(whole[:n])
		if !slices.Equal(whole, kept) {
			t.Fatalf("of %d: what was handed in is %q now", n, whole)
		}
	}
}

// What stands behind a list in memory is not a part of it.
func TestZ2NotReadBehind(t *testing.T) {
	whole := append(full(), list("u.d", "x")...)
	for n := range api.MaxAttrs {
		name := whole[n].Name
		if err := attr.Check(whole[:n]); err != nil {
			t.Errorf("Check of %d: %v", n, err)
		}
		if s, err := attr.Get(whole[:n], name); err != api.ErrNone {
			t.Errorf("Get of %d: %q, %v", n, s, err)
		}
		if l, err := attr.Drop(whole[:n], name); err != api.ErrNone {
			t.Errorf("Drop of %d: %q, %v", n, l, err)
		}
		want := append(slices.Clone(whole[:n]), api.Attr{Name: name, Value: "w"})
		if l, err := attr.Set(whole[:n], name, "w"); err != nil || !slices.Equal(l, want) {
			t.Errorf("Set of %d: %q, %v", n, l, err)
		}
	}
}

// spoil all memory that a list has, also behind its end.
func spoil(l []api.Attr) {
	l = l[:cap(l)]
	for i := range l {
		l[i] = api.Attr{Name: "spoilt", Value: "spoilt"}
	}
}

// What comes out is the caller's: it shares no memory with what was handed in, nor with what comes out next.
func TestZ2Fresh(t *testing.T) {
	for n := range api.MaxAttrs + 1 {
		for _, name := range []string{"t.a", "t.b", "t.c", "u.b", "u.d", "u.e"} {
			calls := map[string]func(l []api.Attr) ([]api.Attr, error){
				"Set":  func(l []api.Attr) ([]api.Attr, error) { return attr.Set(l, name, "w") },
				"Drop": func(l []api.Attr) ([]api.Attr, error) { return attr.Drop(l, name) },
			}
			for what, call := range calls {
				l := full()[:n]
				first, _ := call(l)
				second, _ := call(l)
				want := slices.Clone(second)
				spoil(first)
				third, _ := call(l)
				if !slices.Equal(l, full()[:n]) || !slices.Equal(second, want) || !slices.Equal(third, want) {
					t.Errorf("%s of %d, %q: %q is answered in memory that is another's", what, n, name, second)
				}
				spoil(l)
				if !slices.Equal(second, want) || !slices.Equal(third, want) {
					t.Errorf("%s of %d, %q: the answer changes with what was handed in: %q", what, n, name, second)
				}
			}
		}
	}
}

// Nothing is kept: another list in the same memory answers otherwise.
func TestZ2NotKept(t *testing.T) {
	l := full()
	ask(l)
	copy(l, with("t.b", "a", "t.c", "b", "u.b", "c", "u.e", "d"))
	if s, err := attr.Get(l, "t.c"); s != "b" || err != nil {
		t.Errorf("Get: %q, %v", s, err)
	}
	if s, err := attr.Get(l, "t.d"); s != "" || err != api.ErrNone {
		t.Errorf("Get of what was: %q, %v", s, err)
	}
	l[0].Name = "x"
	if err := attr.Check(l); err != api.ErrName {
		t.Errorf("Check: %v", err)
	}
}
