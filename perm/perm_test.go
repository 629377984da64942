package perm_test

import (
	"math"
	"testing"

	"idshift/api"
	"idshift/perm"
)

const (
	all  = api.Read | api.Write | api.Go
	user = 5
)

// one: somebody of user 5 in the groups 7, 2 and 9, with these capabilities.
func one(caps int) api.Cred {
	return api.Cred{User: user, Group: 7, Groups: []int{2, 9}, Caps: caps}
}

func file(mode, user, group int) api.Thing {
	return api.Thing{Mode: mode, User: user, Group: group, Mapped: true}
}

func dir(mode, user, group int) api.Thing {
	return api.Thing{Dir: true, Mode: mode, User: user, Group: group, Mapped: true}
}

func unmapped(t api.Thing) api.Thing {
	t.Mapped = false
	return t
}

type asked struct {
	name string
	c    api.Cred
	t    api.Thing
	want int
	may  bool
}

func ask(t *testing.T, l []asked) {
	t.Helper()
	for _, x := range l {
		if got := perm.May(x.c, x.t, x.want); got != x.may {
			t.Errorf("%s: May(%v, %v, %d): %v", x.name, x.c, x.t, x.want, got)
		}
	}
}

func TestR1Wants(t *testing.T) {
	open := file(0o777, user, 7)
	ask(t, []asked{
		{"nothing of what is open", one(0), open, 0, true},
		{"all of what is open", one(0), open, all, true},
		{"nothing of what is shut", one(0), file(0, user, 7), 0, true},
		{"nothing of what is shut and not mapped", one(0), unmapped(file(0, user, 7)), 0, true},
		{"below 0", one(0), open, -1, false},
		{"below 0, in spite of capabilities", one(api.AllCaps), dir(0o777, user, 7), -1, false},
		{"above 7", one(0), open, 8, false},
		{"above 7, in spite of capabilities", one(api.AllCaps), dir(0o777, user, 7), 8, false},
		{"the smallest", one(api.AllCaps), open, math.MinInt, false},
		{"the greatest", one(api.AllCaps), open, math.MaxInt, false},
		{"bits above three that the mode has", one(api.AllCaps), file(api.MaxMode, user, 7), api.Sticky, false},
	})
}

func TestR1Classes(t *testing.T) {
	ask(t, []asked{
		{"an owner's", one(0), file(0o400, user, 1), api.Read, true},
		{"an owner has none of the group's", one(0), file(0o070, user, 7), api.Read, false},
		{"an owner has none of others'", one(0), file(0o007, user, 1), api.Go, false},
		{"the group's", one(0), file(0o020, 6, 7), api.Write, true},
		{"the group's, by the first of Groups", one(0), file(0o020, 6, 2), api.Write, true},
		{"the group's, by the last of Groups", one(0), file(0o020, 6, 9), api.Write, true},
		{"a group has none of the owner's", one(0), file(0o700, 6, 7), api.Write, false},
		{"a group has none of others'", one(0), file(0o007, 6, 9), api.Write, false},
		{"others'", one(0), file(0o001, 6, 1), api.Go, true},
		{"others have none of the owner's", one(0), file(0o700, 6, 1), api.Go, false},
		{"others have none of the group's", one(0), file(0o070, 6, 1), api.Go, false},
		{"an owner in a group is an owner", one(0), file(0o040, user, 7), api.Read, false},
		{"unmapped, a user is none", one(0), unmapped(file(0o770, user, 7)), api.Read, false},
		{"unmapped, the bits are others'", one(0), unmapped(file(0o004, user, 7)), api.Read, true},
		{"unmapped, a group is none", one(0), unmapped(file(0o070, 6, 7)), api.Read, false},
		{"all bits that are wanted", one(0), file(0o600, user, 1), api.Read | api.Write, true},
		{"not all bits that are wanted", one(0), file(0o600, user, 1), all, false},
		{"one bit of two", one(0), file(0o040, 6, 7), api.Read | api.Go, false},
		{"other bits of a mode are no rights", one(0), file(0o7000, user, 7), api.Go, false},
	})
}

func TestR1CapAccess(t *testing.T) {
	c := one(api.CapAccess)
	ask(t, []asked{
		{"a file's bytes", c, file(0, 6, 1), api.Read | api.Write, true},
		{"a file that nobody may go", c, file(0o666, 6, 1), api.Go, false},
		{"a file that nobody may go, with more", c, file(0o666, 6, 1), all, false},
		{"a file that its owner may go", c, file(0o100, 6, 1), all, true},
		{"a file that its group may go", c, file(0o010, 6, 1), all, true},
		{"a file that others may go", c, file(0o001, 6, 1), all, true},
		{"one's own that the group may go", c, file(0o010, user, 7), all, true},
		{"bits beside the nine let nobody go", c, file(0o7666, 6, 1), api.Go, false},
		{"a directory that nobody may go", c, dir(0, 6, 1), all, true},
		{"one's own directory", c, dir(0, user, 7), api.Go, true},
		{"what isn't mapped", c, unmapped(file(0, 6, 1)), api.Read, false},
		{"a directory that isn't mapped", c, unmapped(dir(0o770, 6, 1)), api.Read, false},
		{"rights of what isn't mapped", c, unmapped(dir(0o005, 6, 1)), api.Read | api.Go, true},
		{"all other capabilities", one(api.AllCaps &^ api.CapAccess), dir(0o770, 6, 1), api.Read, false},
		{"among other capabilities", one(api.AllCaps), dir(0, 6, 1), api.Read, true},
		{"the document's: a file of one's own that others may read and write", api.Cred{User: 5, Caps: api.CapAccess}, file(6, 5, 0), api.Go, false},
		{"the document's: without capabilities", api.Cred{User: 5}, file(6, 5, 0), api.Read, false},
	})
}

func TestR2Owns(t *testing.T) {
	for _, x := range []struct {
		name string
		c    api.Cred
		t    api.Thing
		want bool
	}{
		{"one's own", one(0), file(0, user, 1), true},
		{"one's own directory", one(0), dir(0, user, 1), true},
		{"one's own, not mapped", one(0), unmapped(file(0o777, user, 7)), false},
		{"another's", one(0), file(0o777, 6, 1), false},
		{"another's, of one's group", one(0), file(0o777, 6, 7), false},
		{"another's, of a group of one's number", one(0), file(0o777, 6, user), false},
		{"another's, by CapOwner", one(api.CapOwner), file(0, 6, 1), true},
		{"another's, by all capabilities", one(api.AllCaps), dir(0, 6, 1), true},
		{"another's, by all other capabilities", one(api.AllCaps &^ api.CapOwner), file(0, 6, 1), false},
		{"not mapped, in spite of CapOwner", one(api.CapOwner), unmapped(file(0o777, 6, 1)), false},
		{"one's own, not mapped, in spite of CapOwner", one(api.AllCaps), unmapped(file(0o777, user, 7)), false},
	} {
		if got := perm.Owns(x.c, x.t); got != x.want {
			t.Errorf("%s: Owns(%v, %v): %v", x.name, x.c, x.t, got)
		}
	}
}

func TestR2Takes(t *testing.T) {
	const sticky = api.Sticky | 0o777
	for _, x := range []struct {
		name   string
		c      api.Cred
		dir, t api.Thing
		want   bool
	}{
		{"no Sticky", one(0), dir(0o777, 6, 1), file(0, 6, 1), true},
		{"no Sticky, nothing mapped, no rights", one(0), unmapped(dir(0, 6, 1)), unmapped(file(0, 6, 1)), true},
		{"no Sticky, the other two of its kind", one(0), dir(api.SetUser|api.SetGroup, 6, 1), file(0, 6, 1), true},
		{"what is taken is Sticky", one(0), dir(0o777, 6, 1), file(sticky, 6, 1), true},
		{"Sticky", one(0), dir(sticky, 6, 7), file(0o777, 6, 7), false},
		{"Sticky and nothing else", one(0), dir(api.Sticky, 6, 7), file(0o777, 6, 7), false},
		{"one's own", one(0), dir(sticky, 6, 1), file(0, user, 1), true},
		{"one's own, not mapped", one(0), dir(sticky, 6, 1), unmapped(file(0, user, 1)), false},
		{"one's own, out of what isn't mapped", one(0), unmapped(dir(sticky, 6, 1)), file(0, user, 1), true},
		{"out of one's own", one(0), dir(sticky, user, 1), file(0, 6, 1), true},
		{"out of one's own, what isn't mapped", one(0), dir(sticky, user, 1), unmapped(file(0, 6, 1)), true},
		{"out of one's own that isn't mapped", one(0), unmapped(dir(sticky, user, 1)), file(0, 6, 1), false},
		{"by CapOwner", one(api.CapOwner), dir(sticky, 6, 1), file(0, 6, 1), true},
		{"by CapOwner, out of what isn't mapped", one(api.CapOwner), unmapped(dir(sticky, 6, 1)), file(0, 6, 1), true},
		{"CapOwner helps only with what is mapped", one(api.CapOwner), dir(sticky, 6, 1), unmapped(file(0, 6, 1)), false},
		{"by all other capabilities", one(api.AllCaps &^ api.CapOwner), dir(sticky, 6, 1), file(0, 6, 1), false},
	} {
		if got := perm.Takes(x.c, x.dir, x.t); got != x.want {
			t.Errorf("%s: Takes(%v, %v, %v): %v", x.name, x.c, x.dir, x.t, got)
		}
	}
}
