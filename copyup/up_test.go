package copyup_test

import (
	"testing"

	"idshift/api"
	"idshift/copyup"
)

// upCase: layers, names, and the upper as it is then (ids as within), or the error.
type upCase struct {
	name, layers, names string
	want                string
	err                 error
}

func up(t *testing.T, all []upCase) {
	t.Helper()
	for _, x := range all {
		got, err := copyup.Up(layers(x.layers), maps(), names(x.names))
		if err != x.err || err != nil && !zero(got) {
			t.Errorf("%s: Up(%s; %s): %v, %v, not %v", x.name, x.layers, x.names, got, err, x.err)
		} else if err == nil && tell(moved(got, -outside)) != x.want {
			t.Errorf("%s: Up(%s; %s): %s, not %s", x.name, x.layers, x.names, tell(moved(got, -outside)), x.want)
		}
	}
}

func TestU2UpAtTheTop(t *testing.T) {
	up(t, []upCase{
		{"no layers", "", "", "", api.ErrNone},
		{"the upper alone", "dx(a=fy)", "", "dx(a=fy)", nil},
		{"above a lower", "dx:1.2(a=fy)|d:3.4(b=fz)", "", "dx:1.2(a=fy)", nil},
		{"an Opaque one", "Dx(a=w)|d(b=fz)", "", "Dx(a=w)", nil},
		{"ids that the maps don't have", "dx:50.60|d(b=fz)", "", "dx:50.60", nil},
		{"a File", "fx|d(b=fz)", "", "fx", nil},
		{"a White", "w|d(b=fz)", "", "", api.ErrNone},
		{"a Kind that is none", "n|d(b=fz)", "", "", api.ErrNone},
	})
}

func TestU2UpWhereNothingIsSeen(t *testing.T) {
	up(t, []upCase{
		{"no layers", "", "a", "", api.ErrNone},
		{"none has it", "d(b=fx)|d(c=fx)", "a", "", api.ErrNone},
		{"a White", "d(a=w)|d(a=fx)", "a", "", api.ErrNone},
		{"below a White", "d(a=w)|d(a=d(b=fx))", "a b", "", api.ErrNone},
		{"a Kind that is none", "d(a=n)|d(a=fx)", "a", "", api.ErrNone},
		{"below what is Opaque", "d(a=D)|d(a=d(b=fx))", "a b", "", api.ErrNone},
		{"below an Opaque '/'", "D|d(a=fx)", "a", "", api.ErrNone},
		{"below what is Opaque in a lower", "d|d(a=D)|d(a=d(b=fx))", "a b", "", api.ErrNone},
		{"below a File", "d(a=fx)|d(a=d(b=fx))", "a b", "", api.ErrNone},
		{"below a File of a lower", "d|d(a=fx)|d(a=d(b=fx))", "a b", "", api.ErrNone},
		{"below a Dir above a File", "d(a=d)|d(a=f(b=fx))", "a b", "", api.ErrNone},
		{"at the end alone", "d|d(a=d(b=dx))", "a b c", "", api.ErrNone},
		{"ids and names that are none are not looked at", "d|d(A=d:90.90)", "A b", "", api.ErrNone},
	})
}

func TestU2UpOfTheUpper(t *testing.T) {
	up(t, []upCase{
		{"a File", "d(a=fx)|d(a=fy)", "a", "d(a=fx)", nil},
		{"a Dir", "d(a=dx(b=fz))|d(a=dy(c=fz))", "a", "d(a=dx(b=fz))", nil},
		{"further down", "d(a=d(b=d(c=fx)))", "a b c", "d(a=d(b=d(c=fx)))", nil},
		{"an Opaque Dir", "d(a=Dx)|d(a=dy(c=fz))", "a", "d(a=Dx)", nil},
		{"below an Opaque Dir", "d(a=D(b=fx))|d(a=d(b=fy))", "a b", "d(a=D(b=fx))", nil},
		{"Whites beside it stay", "d(a=fx b=w)|d(b=fz)", "a", "d(a=fx b=w)", nil},
		{"ids that the maps don't have", "d(a=fx:80.80)|d(a=fy)", "a", "d(a=fx:80.80)", nil},
		{"a name that is none", "d(A=d(=fx))", "A =", "d(A=d(=fx))", nil},
	})
}

func TestU2UpOfLowers(t *testing.T) {
	up(t, []upCase{
		{"a File", "d|d(a=fx:1.2)", "a", "d(a=fx:1.2)", nil},
		{"a Dir comes without Kids", "d|d(a=dx:1.2(b=fz c=d(e=fz)))", "a", "d(a=dx:1.2)", nil},
		{"a File with Kids comes without them", "d|d(a=fx(b=fz))", "a", "d(a=fx)", nil},
		{"an Opaque Dir isn't any more", "d|d(a=Dx(b=fz))", "a", "d(a=dx)", nil},
		{"an Opaque File isn't either", "d|d(a=Fx)", "a", "d(a=fx)", nil},
		{"below Dirs that lowers alone have", "d|d(a=dx:1.2(b=dy:3.4(c=fz:5.0 p=fp) q=fq))", "a b c", "d(a=dx:1.2(b=dy:3.4(c=fz:5.0)))", nil},
		{"Dirs of several lowers", "d|d(a=dx)|d(a=dy(b=dz))|d(a=d(b=dp(c=fq)))", "a b c", "d(a=dx(b=dz(c=fq)))", nil},
		{"the upper has the Dir in part", "d(a=du:7.1(p=fp b=w))|d(a=dx(c=fy))", "a c", "d(a=du:7.1(c=fy p=fp b=w))", nil},
		{"the upper has two Dirs of three", "d(a=du(b=dv))|d(a=dx(b=dy(c=dz(e=fq))))", "a b c e", "d(a=du(b=dv(c=dz(e=fq))))", nil},
		{"the lowest lower has it", "d|d|d|d(a=fx)", "a", "d(a=fx)", nil},
		{"the first of lowers that have it", "d|d|d(a=fx)|d(a=fy)", "a", "d(a=fx)", nil},
		{"a White of a lower beside it", "d|d(b=w a=fx)", "a", "d(a=fx)", nil},
		{"below what is Opaque in a lower", "d|d(a=Dx(b=fy))|d(a=dz(c=fp))", "a b", "d(a=dx(b=fy))", nil},
		{"below what is Opaque at a lower's '/'", "d|D(a=fx)|d(a=fy)", "a", "d(a=fx)", nil},
		{"kids rise", "d(a=fp c=fq e=fr)|d(b=fx d=fy)", "d", "d(a=fp c=fq d=fy e=fr)", nil},
		{"first of all", "d(b=fp)|d(a=fx)", "a", "d(a=fx b=fp)", nil},
		{"last of all", "d(b=fp)|d(c=fx)", "c", "d(b=fp c=fx)", nil},
		{"twice in the lower", "d|d(a=fx a=fy)", "a", "d(a=fx)", nil},
		{"twice in the upper", "d(a=dx a=dy(b=fp))|d(a=d(b=fz))", "a b", "d(a=dx(b=fz) a=dy(b=fp))", nil},
		{"more names than MaxDepth", "d|d(a=d(a=d(a=d(a=d(a=d(a=d(a=fx)))))))", "a a a a a a a", "d(a=d(a=d(a=d(a=d(a=d(a=d(a=fx)))))))", nil},
	})
}

func TestU2UpErrors(t *testing.T) {
	up(t, []upCase{
		{"the user", "d|d(a=fx:10.0)", "a", "", api.ErrUnmapped},
		{"the group", "d|d(a=fx:0.5)", "a", "", api.ErrUnmapped},
		{"both", "d|d(a=fx:10.5)", "a", "", api.ErrUnmapped},
		{"of a Dir on the way", "d|d(a=d:10.0(b=fx))", "a b", "", api.ErrUnmapped},
		{"of a Dir on the way that the upper has", "d(a=d:10.5)|d(a=d:10.5(b=fx:1.1))", "a b", "d(a=d:10.5(b=fx:1.1))", nil},
		{"of what is beside", "d|d(a=d(b=fx c=fy:10.0) d=d:10.0)", "a b", "d(a=d(b=fx))", nil},
		{"of the lower's '/'", "d|d:10.0(a=fx)", "a", "d(a=fx)", nil},
		{"of kids", "d|d(a=dx(b=fy:10.0))", "a", "d(a=dx)", nil},
		{"of a lower further down", "d|d(a=dx)|d(a=d:10.0)", "a", "d(a=dx)", nil},
		{"a name that is none", "d|d(A=fx)", "A", "", api.ErrName},
		{"an empty name", "d|d(=fx)", "=", "", api.ErrName},
		{"a name on the way", "d|d(A=d(b=fx))", "A b", "", api.ErrName},
		{"a name at the end", "d|d(a=d(B=fx))", "a B", "", api.ErrName},
		{"a name in the middle", "d|d(a=d(B=d(c=fx)))", "a B c", "", api.ErrName},
		{"a name on the way that the upper has", "d(A=d)|d(A=d(b=fx))", "A b", "d(A=d(b=fx))", nil},
		{"ids ahead of the name", "d|d(A=fx:10.0)", "A", "", api.ErrUnmapped},
		{"the name ahead of ids behind it", "d|d(A=d(b=fx:10.0))", "A b", "", api.ErrName},
		{"ids ahead of the name behind them", "d|d(a=d:10.0(B=fx))", "a B", "", api.ErrUnmapped},
		{"the second name ahead of the third one's ids", "d|d(a=d(B=d(c=fx:10.0)))", "a B c", "", api.ErrName},
		{"the second one's ids ahead of the third name", "d|d(a=d(b=d:10.0(C=fx)))", "a b C", "", api.ErrUnmapped},
		{"a name of twelve bytes", "d|d(abcdefghijkl=fx)", "abcdefghijkl", "d(abcdefghijkl=fx)", nil},
		{"a name of thirteen", "d|d(abcdefghijklm=fx)", "abcdefghijklm", "", api.ErrName},
		{"nothing is seen: that is told first", "d|d(A=d:10.0)", "A B", "", api.ErrNone},
	})
}

// What comes up has all that the lower's node has, but Kids and Opaque; ids as they are outside; the upper's own stays whole.
func TestU2UpWhole(t *testing.T) {
	low := full(api.Dir, 6, 3, kid("a", opaque(full(api.Dir, 7, 4, kid("b", full(api.File, 9, 2)), kid("c", full(api.File, 1, 1))))))
	top := full(api.Dir, 1001, 1002, kid("w", full(api.White, 50, 60)), kid("z", opaque(full(api.Dir, 1003, 1004, kid("y", full(api.File, 70, 80))))))
	a, b := full(api.Dir, 7, 4), full(api.File, 9, 2)
	a.User, a.Group, b.User, b.Group = 1007, 1004, 1009, 1002
	a.Kids = []api.Kid{kid("b", b)}
	want := full(api.Dir, 1001, 1002, append([]api.Kid{kid("a", a)}, top.Kids...)...)
	if got, err := copyup.Up([]api.Node{top, low}, maps(), names("a b")); err != nil || !same(got, want) {
		t.Errorf("%v, %v, not %v", got, err, want)
	}
}

// Maps that aren't right have no ids: lowers' nodes don't come up, the upper's stay.
func TestU2MapsThatAreNotRight(t *testing.T) {
	for _, m := range []api.Maps{{}, {Users: maps().Users}, {Groups: maps().Groups}, {Users: []api.Range{{Count: 70000}}, Groups: maps().Groups}} {
		if got, err := copyup.Up(layers("d|d(a=fx)"), m, names("a")); err != api.ErrUnmapped || !zero(got) {
			t.Errorf("%v: %v, %v", m, got, err)
		}
		if got, err := copyup.Up(layers("d|d(A=fx)"), m, names("A")); err != api.ErrUnmapped || !zero(got) {
			t.Errorf("%v: %v, %v", m, got, err)
		}
		if got, err := copyup.Up(layers("d(a=fx)|d(a=fy)"), m, names("a")); err != nil || tell(moved(got, -outside)) != "d(a=fx)" {
			t.Errorf("%v: %v, %v", m, got, err)
		}
	}
}

// The maps say where ids are, range by range.
func TestU2ByTheMaps(t *testing.T) {
	m := api.Maps{
		Users:  []api.Range{{In: 5, Out: 40, Count: 2}, {In: 0, Out: 90, Count: 3}},
		Groups: []api.Range{{In: 0, Out: 65530, Count: 6}},
	}
	l := []api.Node{node("d:90.65530"), node("d(a=d:6.5(b=fx:2.0))")}
	if got, err := copyup.Up(l, m, names("a b")); err != nil || tell(got) != "d:90.65530(a=d:41.65535(b=fx:92.65530))" {
		t.Errorf("%v, %v", got, err)
	}
}
