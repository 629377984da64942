package box_test

import (
	"testing"

	"idshift/api"
	"idshift/box"
)

// Another Op than these is none, whatever else is asked.
func TestB4NoOp(t *testing.T) {
	b := start(t, admin(), 9, "d(a=f'x)")
	for _, op := range []int{0, -1, 15, 16, 1 << 40, -1 << 63, 1<<63 - 1} {
		do(t, b, "no Op", api.Call{Op: op}, api.Told{}, api.ErrShape)
		do(t, b, "no Op", api.Call{Op: op, Path: "/a", Other: "/b", Name: "u.a", Data: "x", A: 1, B: 1}, api.Told{}, api.ErrShape)
	}
}

func TestB4Stat(t *testing.T) {
	play(t, start(t, who(1, 1, 0), 9, "d(a=f7777:3.4'hello b=d0:3.4(a=f b=d c=f) c=f:15.4 d=f:3.8 e=d:90.90 f=f0)|d(b=d(a=f d=f) e=d(x=f) g=f:14.7'abc)"), `
		stat / => d 755 1.1 7
		stat /a => f 7777 3.4 5
		stat /b => d 0 3.4 4
		stat /c => f 644 65534.4 0
		stat /d => f 644 3.65534 0
		stat /e => d 755 65534.65534 1
		stat /e/x => f 644 0.0 0
		stat /f => f 0 0.0 0
		stat /g => f 644 14.7 3
		remove /a => ok
		put /h 600 xy => ok
		stat / => d 755 1.1 7
		remove /g => ok
		stat / => d 755 1.1 6
		stat /h => f 600 1.1 2
		stat /a => none
		stat /b/a => access
	`)
}

func TestB4List(t *testing.T) {
	play(t, start(t, who(1, 1, 0), 9, "d(b=d700:1.1(z=f a=d b=f) a=f0:1.1 c=d333:1.1(x=f) d=d733(x=f) e=f400:2.2 g=d774(x=f))|d(b=d(c=f) f=d)"), `
		list / => a b c d e f g
		list /b => a b c z
		list /b/a => -
		list /f => -
		list /a => kind
		list /e => kind
		list /c => access
		list /d => access
		list /g => x
		list /g/x => access
		list /x => none
		list /a/x => kind
		list x => name
		remove /b/b => ok
		put /b/m 644 x => ok
		list /b => a c m z
		mode / 333 => ok
		list / => access
	`)
}

func TestB4Read(t *testing.T) {
	play(t, start(t, who(1, 1, 0), 9, "d(a=f400:1.1'hello b=f377:1.1'x c=d777 d=d0:2.2 e=f374:1.1 f=f:90.90'odd g=f)|d(h=f'low a=f'no)"), `
		read /a => hello
		read /b => access
		read /c => kind
		read /d => kind
		read / => kind
		read /e => access
		read /f => odd
		read /g => -
		read /h => low
		read /i => none
		read /a/b => kind
		read /d/x => access
		read - => name
		put /h 600 up => access
		remove /h => ok
		read /h => none
		put /h 600 up => ok
		read /h => up
	`)
	play(t, start(t, who(1, 1, api.CapAccess), 9, "d(a=f0'hello b=f0:15.0'x)"), `
		read /a => hello
		read /b => access
	`)
}

func TestB4PutOrder(t *testing.T) {
	play(t, start(t, who(1, 1, 0), 3, "d(f=f666:1.1'x d=d0:1.1 n=f555:1.1 u=f:90.1 w=f666:90.1 no=d555:1.1 x=d0(a=f))"), `
		put / 10000 x => bound
		put / -1 x => bound
		put / 644 *201 => bound
		put x 10000 x => bound
		put /f/x 644 *201 => bound
		put /x/a -1 x => bound
		put /d 10000 x => bound
		put / 7777 x => kind
		put / 0 *200 => kind
		put x 644 x => name
		put - 644 x => name
		put /f/ 644 x => name
		put /f/1/2/3/4/5/6 644 x => many
		put /f/x 644 x => kind
		put /x/a 644 x => access
		put /q/a 644 x => none
		put /d 644 x => kind
		put /d 644 *200 => kind
		put /n 644 x => access
		put /u 644 x => access
		put /u 644 *200 => access
		put /w 644 x => unmapped
		put /w 644 *200 => unmapped
		put /no/a 644 *200 => access
		put /f 644 *200 => quota
		put /a 644 *200 => quota
		put /f 0 *100 => ok
		upper => d:1.1(f=f666:1.1'zzzzzzzzzzzzzzzzzzzzzzzzzzzzzzzzzzzzzzzzzzzzzzzzzzzzzzzzzzzzzzzzzzzzzzzzzzzzzzzzzzzzzzzzzzzzzzzzzzzz)
	`)
}

func TestB4Put(t *testing.T) {
	play(t, start(t, who(1, 1, 0, 2), 64, "d(f=f6666:2.2[u.a~1]'x)"), `
		put /a 0 - => ok
		stat /a => f 0 1.1 0
		put /a 644 x => access
		put /b 7777 x => ok
		stat /b => f 7777 1.1 1
		put /b 0 yz => ok
		stat /b => f 1777 1.1 2
		read /b => yz
		put /b 0 - => ok
		read /b => -
		put /f 0 new => ok
		stat /f => f 666 2.2 3
		get /f u.a => 1
		put /c 644 *200 => ok
		stat /c => f 644 1.1 200
	`)
	play(t, start(t, who(1, 1, api.CapSetid), 64, "d(f=f6666:2.2'x)"), `
		put /f 0 new => ok
		stat /f => f 6666 2.2 3
	`)
}

func TestB4MakeOrder(t *testing.T) {
	play(t, start(t, who(1, 1, 0), 1, "d(f=f d=d333 no=d555:1.1 w=d777:90.1 x=d0)"), `
		make / 10000 => bound
		make x -1 => bound
		make /f/x 10000 => bound
		make x 755 => name
		make /f/1/2/3/4/5/6 755 => many
		make /f/x 755 => kind
		make /x/a 755 => access
		make /q/a 755 => none
		make / 755 => exist
		make /f 755 => exist
		make /d 755 => exist
		make /no 755 => exist
		make /no/a 755 => access
		make /w/a 755 => unmapped
		make /123456789012 755 => ok
		make /123456789013 755 => ok
		make /12345678 755 => quota
		upper => d:1.1(123456789012=d:1.1 123456789013=d:1.1)
	`)
}

func TestB4Make(t *testing.T) {
	play(t, start(t, who(1, 2, 0), 64, "d(d=d777:1.1(a=f b=f))"), `
		make /a 0 => ok
		make /b 7777 => ok
		make /d/c 700 => ok
		make /d/c/d 4755 => ok
		stat /a => d 0 1.2 0
		stat /b => d 7777 1.2 0
		stat /d => d 777 1.1 3
		list /d => a b c
		upper => d:1.2(a=d0:1.2 b=d7777:1.2 d=d777:1.1(c=d700:1.2(d=d4755:1.2)))
	`)
}

func TestB4RemoveOrder(t *testing.T) {
	b := start(t, who(1, 1, 0), 1, "d(f=f666:1.1 d=d777:1.1(a=f) no=d555:1.1(a=d(b=f) e=f) s=d1777(a=d(b=f) c=f:1.1 e=d) x=d0(a=f) w=d777:90.1(a=f b=d(c=f)) m=d777:1.1(a=f))")
	play(t, b, `
		remove / => held
		remove x => name
		remove - => name
		remove // => name
		remove /f/1/2/3/4/5/6 => many
		remove /f/x => kind
		remove /x/a => access
		remove /q/a => none
		remove /q => none
		remove /no/a => access
		remove /no/e => access
		remove /no/q => none
		remove /s/a => perm
		remove /s/e => perm
		remove /d => filled
		remove /w/b => filled
		remove /w/a => unmapped
		upper => d:1.1
		remove /s/c => ok
		remove /f => ok
		upper => d:1.1(f=w s=d1777(c=w))
		remove /m/a => quota
		upper => d:1.1(f=w s=d1777(c=w))
	`)
}

func TestB4ModeOrder(t *testing.T) {
	play(t, start(t, who(1, 1, 0), 1, "d(f=f666:1.1 n=f666:2.1 u=f666:90.1 x=d0(a=f))"), `
		mode x 10000 => bound
		mode /q -1 => bound
		mode x 644 => name
		mode /f/1/2/3/4/5/6 644 => many
		mode /f/x 644 => kind
		mode /x/a 644 => access
		mode /q 644 => none
		mode /n 644 => perm
		mode /u 644 => perm
		mode /f 0 => ok
		mode / 7700 => ok
		upper => d7700:1.1(f=f0:1.1)
	`)
	play(t, start(t, who(1, 1, 0), 1, "d(g=f:1.1[u.a~12345678901234567890,u.b~12345678901234567890]'x)"), `
		mode /g 600 => quota
		mode / 700 => ok
	`)
	play(t, start(t, who(1, 1, api.CapOwner), 9, "d(n=f:2.1 u=f:15.1 v=f:1.8 d=d:90.90(f=f:1.1))"), `
		mode /n 0 => ok
		mode /u 0 => perm
		mode /v 0 => perm
		mode /d/f 0 => unmapped
	`)
}

// A Mode's SetGroup is given only to what is of one's groups, or by CapSetid.
func TestB4Mode(t *testing.T) {
	lower := "d(a=f:1.1 b=f:1.2 c=f:1.3 d=d:1.3 e=f:1.7)"
	play(t, start(t, who(1, 1, 0, 2), 9, lower), `
		mode /a 7777 => ok
		mode /b 7777 => ok
		mode /c 7777 => ok
		mode /d 7777 => ok
		mode /e 0 => ok
		upper => d:1.1(a=f7777:1.1 b=f7777:1.2 c=f5777:1.3 d=d5777:1.3 e=f0:1.7)
	`)
	play(t, start(t, who(1, 1, api.CapSetid), 9, lower), `
		mode /c 7777 => ok
		mode /d 2070 => ok
		upper => d:1.1(c=f7777:1.3 d=d2070:1.3)
	`)
}

func TestB4OwnOrder(t *testing.T) {
	play(t, start(t, who(1, 1, api.CapChown), 1, "d(f=f:1.1 n=f:2.2 u=f:15.1 v=f:1.8 x=d0(a=f) d=d:90.90(f=f:1.1) w=f:2.2[u.a~12345678901234567890,u.b~12345678901234567890])"), `
		own x -2 0 => bound
		own x 0 -2 => bound
		own x 65536 0 => bound
		own x 0 65536 => bound
		own /q -2 -1 => bound
		own /q -1 65536 => bound
		own x -1 -1 => name
		own x 1 1 => name
		own /f/1/2/3/4/5/6 1 1 => many
		own /f/x -1 -1 => kind
		own /x/a -1 -1 => access
		own /q -1 -1 => none
		own /q 15 15 => none
		own /u -1 -1 => ok
		own /v -1 -1 => ok
		own /d/f -1 -1 => ok
		own /w -1 -1 => ok
		upper => d:1.1
		own /u 1 1 => perm
		own /u 15 -1 => perm
		own /v -1 1 => perm
		own /v 15 -1 => perm
		own /n 15 -1 => unmapped
		own /n 65535 -1 => unmapped
		own /n -1 8 => unmapped
		own /n 3 8 => unmapped
		own /n 15 3 => unmapped
		own /d/f 15 3 => unmapped
		own /d/f 3 3 => unmapped
		own /w 15 3 => unmapped
		own /w 3 3 => quota
		upper => d:1.1
		own /n 14 7 => ok
		own /f 0 0 => ok
		upper => d:1.1(f=f n=f:14.7)
	`)
}

// Without CapChown: one's own, to oneself, and to one's groups.
func TestB4OwnOfOnesOwn(t *testing.T) {
	lower := "d(a=f:1.1 b=f:1.5 c=f:2.1 d=d:1.1)"
	play(t, start(t, who(1, 1, api.AllCaps&^api.CapChown, 2, 3), 9, lower), `
		own /a 2 -1 => perm
		own /a 2 1 => perm
		own /a 2 15 => perm
		own /a -1 5 => perm
		own /a 1 5 => perm
		own /a -1 8 => perm
		own /c -1 2 => perm
		own /c 1 -1 => perm
		own /c 2 1 => perm
		own /c 2 -1 => perm
		own /c -1 1 => perm
		upper => d:1.1
		own /a -1 2 => ok
		own /a 1 3 => ok
		own /a 1 -1 => ok
		own /b 1 -1 => ok
		own /b -1 5 => ok
		own /b 1 5 => ok
		own /d 1 3 => ok
		upper => d:1.1(a=f:1.3 b=f:1.5 d=d:1.3)
		own /b -1 1 => ok
		own /b -1 5 => perm
		own / -1 2 => ok
		upper => d:1.2(a=f:1.3 b=f:1.1 d=d:1.3)
	`)
	play(t, start(t, who(1, 1, 0, 9), 9, lower), "own /a -1 9 => unmapped")
	play(t, start(t, who(4, 6, 0), 9, "d(a=f:4.5 b=f:6.6)"), `
		own /a -1 6 => ok
		own /b -1 6 => perm
		own /b 6 6 => perm
	`)
	// One's own in part is not one's own.
	play(t, start(t, who(1, 1, 0), 9, "d(u=f:15.1 v=f:1.8)"), `
		own /v -1 1 => perm
		own /v 1 1 => perm
		own /v 1 -1 => perm
		own /u -1 1 => perm
	`)
	play(t, start(t, who(1, 1, api.CapChown), 9, lower), `
		own /c 13 -1 => ok
		own /b -1 7 => ok
		own /a 5 6 => ok
		own / 3 -1 => ok
		upper => d:3.1(a=f:5.6 b=f:1.7 c=f:13.1)
	`)
}

// Mode is as Wipe leaves it, also where ids stay.
func TestB4OwnWipes(t *testing.T) {
	lower := "d(a=f7777:1.1 d=d7777:1.1)"
	play(t, start(t, who(1, 1, 0), 9, lower), `
		own /a 1 1 => ok
		own /d -1 1 => ok
		upper => d:1.1(a=f1777:1.1 d=d1777:1.1)
	`)
	play(t, start(t, who(1, 1, api.CapSetid|api.CapChown), 9, lower), `
		own /a 1 2 => ok
		own /d 2 1 => ok
		upper => d:1.1(a=f7777:1.2 d=d7777:2.1)
	`)
}

func TestB4SetOrder(t *testing.T) {
	const long = "12345678901234567890"
	play(t, start(t, who(1, 1, 0), 1, "d(f=f666:1.1[u.a~1,u.b~2,u.c~3,u.d~4] n=f555:2.2[u.a~1] u=f666:90.1 x=d0(a=f) o=f0:1.1[t.a~1] w=f622:2.2)"), `
		set x y *21 => name
		set x u. 1 => name
		set /f x.a 1 => name
		set x u.a *21 => bound
		set /q t.a *21 => bound
		set x u.a *20 => name
		set /f/1/2/3/4/5/6 u.a 1 => many
		set /f/x u.a 1 => kind
		set /x/a t.a 1 => access
		set /q u.a 1 => none
		set /n u.a 1 => access
		set /n t.a 1 => perm
		set /f u.e 1 => many
		set /f t.e 1 => many
		set /f u.z *20 => many
		set /u u.a 1 => unmapped
		set /u t.a 1 => perm
		set /o u.a 1 => access
		set /w t.a 1 => perm
		set /f u.a *20 => quota
		set / u.a *20 => ok
		set / u.b *20 => ok
		set / u.c - => quota
		set / u.a 2 => ok
		set / u.b - => ok
		set /o t.b 3 => ok
		upper => d:1.1[u.a~2,u.b~](o=f0:1.1[t.a~1,t.b~3])
	`)
	play(t, start(t, who(1, 1, 0), 9, "d(w=f622:2.2 f=f666:1.1[u.a~1,u.b~2,u.c~3,u.d~4])"), `
		set /w u.x - => ok
		set /f u.c `+long+` => ok
		set /f u.b 5 => ok
		upper => d:1.1(f=f666:1.1[u.a~1,u.b~5,u.c~`+long+`,u.d~4] w=f622:2.2[u.x~])
	`)
	play(t, start(t, who(1, 1, api.CapOwner), 9, "d(f=f:2.2 u=f:90.1)"), `
		set /f t.x 1 => ok
		set /f u.x 1 => access
		set /u t.x 1 => perm
	`)
}

func TestB4DropOrder(t *testing.T) {
	play(t, start(t, who(1, 1, 0), 1, "d(f=f666:1.1[t.a~1,u.a~2,u.b~3] n=f555:2.2[u.a~1] u=f666:90.1[u.a~1] x=d0(a=f) o=f0:1.1[t.a~1] w=f622:2.2[u.a~1] g=d:1.1[u.a~12345678901234567890,u.b~12345678901234567890])"), `
		drop x y => name
		drop /f .a => name
		drop x u.a => name
		drop /f/1/2/3/4/5/6 u.a => many
		drop /f/x u.a => kind
		drop /x/a t.a => access
		drop /q u.a => none
		drop /n u.a => access
		drop /n u.q => access
		drop /n t.a => perm
		drop /n t.q => perm
		drop /f u.q => none
		drop /f t.q => none
		drop /u u.q => none
		drop /u u.a => unmapped
		drop /u t.a => perm
		drop /o u.a => access
		upper => d:1.1
		drop /g u.a => ok
		drop /f t.a => quota
		drop /g u.b => ok
		upper => d:1.1(g=d:1.1)
	`)
	play(t, start(t, who(1, 1, 0), 9, "d(f=f666:1.1[t.a~1,u.a~2,u.b~3] w=f622:2.2[u.a~1])"), `
		drop /f u.a => ok
		drop /f t.a => ok
		drop /w u.a => ok
		drop /w u.a => none
		upper => d:1.1(f=f666:1.1[u.b~3] w=f622:2.2)
	`)
}

func TestB4Get(t *testing.T) {
	b := start(t, who(1, 1, 0), 9, "d(f=f666:1.1[t.a~1,u.a~two,u.b~] n=f322:2.2[t.a~3,u.a~1] r=f444:2.2[t.a~3,u.a~1] u=f444:90.1[u.a~odd] x=d0(a=f) o=f0:1.1[t.a~mine,u.a~2] d=d:1.1[u.q~dir])")
	play(t, b, `
		get x y => name
		get /f u => name
		get x u.a => name
		get /f/1/2/3/4/5/6 u.a => many
		get /f/x u.a => kind
		get /x/a t.a => access
		get /q u.a => none
		get /n u.a => access
		get /n u.q => access
		get /n t.a => perm
		get /n t.q => perm
		get /r t.a => perm
		get /u t.a => perm
		get /o u.a => access
		get /f u.q => none
		get /f t.q => none
		get /r u.a => 1
		get /u u.a => odd
		get /o t.a => mine
		get /f t.a => 1
		get /f u.a => two
		get /f u.b => -
		get /d u.q => dir
		get / u.a => none
		set / u.a here => ok
		get / u.a => here
		upper => d:1.1[u.a~here]
	`)
	play(t, start(t, who(1, 1, api.CapOwner), 9, "d(f=f0:2.2[t.a~1,u.a~2])"), `
		get /f t.a => 1
		get /f u.a => access
	`)
}

func TestB4Be(t *testing.T) {
	play(t, start(t, who(1, 1, 0, 2, 9), 9, "d"), `
		be -1 1 => bound
		be 1 -1 => bound
		be 65536 1 => bound
		be 1 65536 => bound
		be 2 1 => perm
		be 15 8 => perm
		be 1 3 => perm
		be 1 9 => unmapped
		cred => 1.1 0 [2 9]
		be 1 2 => ok
		cred => 1.2 0 [2 9]
		be 1 1 => perm
		be 1 2 => ok
	`)
	play(t, start(t, who(1, 1, 15, 2), 9, "d(f=f600:3.3'x)"), `
		be 15 1 => unmapped
		be 1 8 => unmapped
		be 65535 65535 => unmapped
		cred => 1.1 15 [2]
		be 0 7 => ok
		cred => 0.7 15 [2]
		be 3 4 => ok
		cred => 3.4 0 [2]
		read /f => x
		put /g 644 y => access
		be 3 2 => ok
		be 0 0 => perm
		cred => 3.2 0 [2]
		upper => d:1.1
	`)
	play(t, start(t, who(0, 0, 15), 9, "d"), `
		be 14 7 => ok
		cred => 14.7 0 []
	`)
}

// Become's error is told ahead of what the maps have not, though they have not even 0.
func TestB4BeOrder(t *testing.T) {
	c := api.Config{Maps: api.Maps{Users: []api.Range{{In: 3, Out: 30, Count: 2}}, Groups: []api.Range{{In: 5, Out: 50, Count: 2}}}, Cred: who(3, 5, 0, 9), Quota: 1}
	b, err := box.New(c, nil)
	if err != nil {
		t.Fatal(err)
	}
	for line, want := range map[string]error{"be 4 5": api.ErrPerm, "be 0 0": api.ErrPerm, "be -1 0": api.ErrBound, "be 3 9": api.ErrUnmapped, "be 3 6": api.ErrPerm, "be 3 5": nil} {
		do(t, scene{b, nil}, line, call(line), api.Told{}, want)
	}
}

// What one makes is one's own, as one is then.
func TestB4BeAndMake(t *testing.T) {
	play(t, start(t, who(0, 0, 15), 9, "d"), `
		mode / 777 => ok
		put /a 600 x => ok
		be 12 3 => ok
		put /b 600 y => ok
		read /a => access
		own /b -1 0 => perm
		upper => d777(a=f600'x b=f600:12.3'y)
	`)
}

func TestB4Charge(t *testing.T) {
	play(t, start(t, who(1, 1, 0), 9, "d(a=f666:1.1'xxxxxxxxxxxxxxxxxxxxxxxxxxxxxxxxxxxxxxxxxxxxxxxxxxxxxxxxxxxxxxxxxxxxxxxxxxxxxxxxxxxxxxxxxx)"), `
		charge => 1
		put /b 644 *42 => ok
		charge => 1
		put /b 644 *43 => ok
		charge => 2
		put /b 644 *106 => ok
		charge => 2
		put /b 644 *107 => ok
		charge => 3
		remove /b => ok
		charge => 1
		mode /a 600 => ok
		charge => 2
		mode / 0 => ok
		charge => 2
	`)
}
