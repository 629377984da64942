package box_test

import (
	"testing"

	"idshift/api"
	"idshift/tree"
)

// Errors in the order in which they are told: each line has all of those that come later too, as far as they go together.
func TestB8Order(t *testing.T) {
	b := start(t, who(1, 1, 0), 2, "d(f=f666:1.1 u=f666:90.90 d=d777:1.1(a=f:1.1 e=d777:1.1(f=f)) no=d555:1.1(a=f b=d) s=d1777(a=f:2.2 b=f:1.1 e=d:1.1 o=d:2.2) x=d0(a=f) w=d777:90.1(a=f:1.1))")
	play(t, b, `
		move / / => held
		move / x => held
		move x / => held
		move /f / => held
		move /q / => held
		move x y => name
		move x /1/2/3/4/5/6/7 => name
		move - /f => name
		move /1/2/3/4/5/6/7 y => many
		move /q y => name
		move /f - => name
		move /f/x /1/2/3/4/5/6/7 => many
		move /f/x /q/x => kind
		move /x/a /q/x => access
		move /q/x /f/x => none
		move /q /f/x => none
		move /no/a /f/x => access
		move /no/a /no/a => access
		move /s/a /f/x => perm
		move /s/a /s/a => perm
		move /f /f/x => kind
		move /f /x/a => access
		move /f /q/x => none
		move /f /f => ok
		move /u /u => ok
		move /d /d => ok
		move /no /no => ok
		move /s/e /s/e => ok
		move /d /d/q => shape
		move /d /d/e => shape
		move /d /d/e/f => shape
		move /d /d/a/b => kind
		move /no /no/q => shape
		move /no /no/a => shape
		move /d /no/a => access
		move /d /no/b => access
		move /f /no/a => access
		move /f /no/q => access
		move /d /f => exist
		move /d /s/a => exist
		move /f /s/o => exist
		move /f /d => exist
		move /d /s => exist
		move /s/e /d => exist
		move /d/e /d => exist
		move /f /s/a => perm
		move /u /s/a => perm
		move /d /q => cross
		move /d /w/q => cross
		move /s/e /q => cross
		move /u /q => unmapped
		move /f /w/q => unmapped
		move /f /w/a => unmapped
		upper => d:1.1
	`)
}

// ErrMany is told ahead of what would not come up, and of the quota; ErrCross ahead of it.
func TestB8Many(t *testing.T) {
	b := start(t, admin(), 3, "d(a=d(b=d(c=d(d=d))) w=d777:90.0(a=d777(b=d777(c=d777))))")
	play(t, b, `
		make /x 755 => ok
		make /x/y 755 => ok
		put /x/y/z 644 - => ok
		move /x /a/b/c/d/e => many
		move /x /a/b/c/d => exist
		move /x /w/a/b/c/x => many
		move /x/y /a/b/c/d/y => ok
		upper => d(a=d(b=d(c=d(d=d(y=d(z=f))))) x=d)
		move /a /x/a => cross
		move /a/b/c /x/c => cross
		move /a/b/c/d/y/z /a/b/c/d/y/z => ok
		move /a/b/c/d/y/z /x/z => ok
		move /x /a/b/c/d/x => ok
		make /a/b/c/d/y/z 755 => ok
		move /a/b/c/d/y /12345678901 => ok
		move /12345678901 /12345678901/y => shape
	`)
	b = start(t, who(1, 1, 0), 64, "d(w=d777:90.0(a=d777:1.1(b=d777:1.1(c=d777:1.1))))")
	play(t, b, `
		make /x 755 => ok
		make /x/y 755 => ok
		move /x /w/a/b/c/x => unmapped
		make /x/y/z 755 => ok
		move /x /w/a/b/c/x => many
		move /x/y /w/a/b/c/x => unmapped
		put /f 644 x => ok
		move /f /w/a/b/c/x => unmapped
	`)
	b = start(t, admin(), 2, "d")
	play(t, b, `
		make /x 755 => ok
		make /x/a 755 => ok
		make /x/a/a 755 => ok
		make /y 755 => ok
		make /y/y 755 => ok
		make /y/y/y 755 => ok
		make /y/y/y/y 755 => ok
		move /x /y/y/y/y/123456789012 => many
		move /x/a /y/y/y/y/123456789012 => ok
		move /x /y/y/y/y/12345678901 => ok
		put /z 644 - => ok
		move /z /z2345678901 => quota
	`)
}

// Onto nothing: what a lower has, the upper alone, both.
func TestB8OntoNothing(t *testing.T) {
	play(t, start(t, admin(), 64, "d(a=f640:3.4[u.x~1]'low b=f'b d=d:5.5(e=d) h=f'h)"), `
		move /a /n => ok
		upper => d(a=w n=f640:3.4[u.x~1]'low)
		move /n /m => ok
		upper => d(a=w m=f640:3.4[u.x~1]'low)
		move /m /a => ok
		upper => d(a=f640:3.4[u.x~1]'low)
		put /b 644 B => ok
		move /b /d/e/b => ok
		upper => d(a=f640:3.4[u.x~1]'low b=w d=d:5.5(e=d(b=f'B)))
		move /d/e/b /b => ok
		move /h /d/h => ok
		upper => d(a=f640:3.4[u.x~1]'low b=f'B d=d:5.5(e=d h=f'h) h=w)
		flat => d(a=f640:3.4[u.x~1]'low b=f'B d=d:5.5(e=d h=f'h))
	`)
}

// Onto a File: it is the moved one then, and nothing of the old one is left.
func TestB8OntoAFile(t *testing.T) {
	play(t, start(t, admin(), 64, "d(a=f600:1.1[u.a~1]'aa b=f:2.2'bb c=f'cc d=d(e=f'ee))"), `
		put /n 640 nn => ok
		move /n /a => ok
		upper => d(a=f640'nn)
		move /a /b => ok
		upper => d(a=w b=f640'nn)
		move /c /b => ok
		upper => d(a=w b=f'cc c=w)
		move /d/e /b => ok
		upper => d(a=w b=f'ee c=w d=d(e=w))
		put /n 600 new => ok
		put /m 600 new2 => ok
		move /n /m => ok
		upper => d(a=w b=f'ee c=w d=d(e=w) m=f600'new)
		flat => d(b=f'ee d=d m=f600'new)
	`)
}

// A Dir of the upper alone goes with all that it has; it is Opaque just where something would be seen in it.
func TestB8Dir(t *testing.T) {
	play(t, start(t, admin(), 64, "d(a=f d=d(x=f) e=f)"), `
		make /n 755 => ok
		put /n/f 644 x => ok
		make /n/g 755 => ok
		put /n/g/h 644 y => ok
		set /n u.a 1 => ok
		own /n 3 4 => ok
		mode /n 1750 => ok
		move /n /m => ok
		upper => d(m=d1750:3.4[u.a~1](f=f'x g=d(h=f'y)))
		remove /e => ok
		move /m /e => ok
		upper => d(e=D1750:3.4[u.a~1](f=f'x g=d(h=f'y)))
		move /e/g /d/g => ok
		upper => d(d=d(g=d(h=f'y)) e=D1750:3.4[u.a~1](f=f'x))
		move /e /d/e => ok
		upper => d(d=d(e=d1750:3.4[u.a~1](f=f'x) g=d(h=f'y)) e=w)
		remove /d/x => ok
		move /d/g /d/x => ok
		upper => d(d=d(e=d1750:3.4[u.a~1](f=f'x) x=D(h=f'y)) e=w)
		move /d/x /d/e/x => ok
		upper => d(d=d(e=d1750:3.4[u.a~1](f=f'x x=d(h=f'y)) x=w) e=w)
		list /d => e
	`)
}

// A Dir that is the upper's alone over one of a lower: what it hides stays hidden, here and there.
func TestB8OpaqueDir(t *testing.T) {
	play(t, start(t, admin(), 64, "d(d=d(x=f y=f) e=d(z=f))"), `
		remove /d/x => ok
		move /d /n => cross
		remove /d/y => ok
		move /d /n => cross
		remove /d => ok
		make /d 755 => ok
		upper => d(d=D)
		move /d /n => ok
		upper => d(d=w n=d)
		flat => d(e=d(z=f) n=d)
		remove /e/z => ok
		remove /e => ok
		move /n /e => ok
		upper => d(d=w e=D)
		list /e => -
		move /e /d => ok
		upper => d(d=D e=w)
		flat => d(d=d)
	`)
}

// A Dir that a lower has, or has a part of, is not moved, though it is empty, or has come up.
func TestB8Cross(t *testing.T) {
	play(t, start(t, admin(), 64, "d(d=d e=d(f=f))|d(d=d(x=f))"), `
		move /d /n => cross
		move /e /n => cross
		mode /d 700 => ok
		mode /e 700 => ok
		move /d /n => cross
		move /e /n => cross
		remove /d/x => ok
		move /d /n => cross
		put /e/g 644 x => ok
		move /e /d/e => cross
		move /e/f /n => ok
		move /e/g /e/f => ok
		upper => d(d=d700(x=w) e=d700(f=f'x) n=f)
	`)
	play(t, start(t, admin(), 64, "d(d=f)|d(d=d(x=f))"), `
		move /d /n => ok
		make /d 755 => ok
		move /d /e => ok
		upper => d(d=w e=d n=f)
	`)
}

// A loaded Dir that isn't Opaque, and has Whites where nothing is below, goes with these.
func TestB8Loaded(t *testing.T) {
	upper, err := tree.Bytes(node("d:1000.2000(a=d:1000.2000(b=d:1000.2000(c=w)) e=D:1000.2000(w=w))"))
	if err != nil {
		t.Fatal(err)
	}
	b := load(t, config(admin(), 64), "d(l=d(l=d(l=d(l=d))) e=d(f=f) w=f)", start(t, admin(), 1, "").Bytes()[:6]+upper)
	for _, x := range []struct {
		line string
		err  error
	}{
		{"move /a /l/l/l/l/a", api.ErrMany}, {"move /a/b /l/l/l/l/b", nil}, {"move /e /n", nil}, {"move /a /e", nil}, {"remove /w", nil}, {"move /n /w", nil},
	} {
		do(t, b, x.line, call(x.line), api.Told{}, x.err)
	}
	if got, want := tell(within(b.Upper())), "d(e=D l=d(l=d(l=d(l=d(b=d(c=w))))) w=D(w=w))"; got != want {
		t.Errorf("%s, not %s", got, want)
	}
}

// Rights and ids of what is moved stay, whoever moves it; its directory's SetGroup is nothing to it.
func TestB8Stays(t *testing.T) {
	play(t, start(t, who(1, 1, 0), 64, "d(g=d2777:1.5 p=d777:2.2(f=f6755:3.3[t.a~1]'x u=f0:14.7))"), `
		move /p/f /g/f => ok
		move /p/u /g/u => ok
		upper => d:1.1(g=d2777:1.5(f=f6755:3.3[t.a~1]'x u=f0:14.7) p=d777:2.2(f=w u=w))
		make /d 700 => ok
		move /d /g/d => ok
		stat /g/d => d 700 1.1 0
	`)
}
