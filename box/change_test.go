package box_test

import (
	"fmt"
	"testing"

	"idshift/api"
	"idshift/box"
	"idshift/tree"
)

func TestB5Access(t *testing.T) {
	lower := "d(a=d555:1.1 b=d577:1.1 c=d755:2.1 d=d757:2.1 e=d775:2.1 f=d772:2.2 g=d773:2.2 h=d773:90.90)"
	play(t, start(t, who(1, 1, 0), 64, lower), `
		put /a/x 644 x => access
		put /b/x 644 x => access
		put /c/x 644 x => access
		put /d/x 644 x => access
		put /e/x 644 x => ok
		put /f/x 644 x => access
		put /g/x 644 x => ok
		put /h/x 644 x => unmapped
		make /a/y 755 => access
		make /e/y 755 => ok
		make /g/y 755 => ok
		make /h/y 755 => unmapped
		upper => d:1.1(e=d775:2.1(x=f:1.1'x y=d:1.1) g=d773:2.2(x=f:1.1'x y=d:1.1))
	`)
	play(t, start(t, who(1, 1, api.CapAccess), 64, lower), `
		put /a/x 644 x => ok
		make /f/y 755 => ok
		put /h/x 644 x => unmapped
	`)
	play(t, start(t, who(1, 1, api.AllCaps&^api.CapAccess), 64, lower), "put /c/x 644 x => access")
}

// A directory whose Mode has SetGroup hands its Group down, and to directories SetGroup too.
func TestB5SetGroup(t *testing.T) {
	lower := "d(own=d2777:2.1 other=d2777:2.5 mine=d2777:2.3 plain=d777:2.5)"
	play(t, start(t, who(1, 1, 0, 3), 64, lower), `
		put /own/f 644 x => ok
		put /own/g 7777 x => ok
		make /own/d 755 => ok
		make /own/e 5755 => ok
		upper => d:1.1(own=d2777:2.1(d=d2755:1.1 e=d7755:1.1 f=f:1.1'x g=f7777:1.1'x))
	`)
	play(t, start(t, who(1, 1, 0, 3), 64, lower), `
		put /other/f 644 x => ok
		put /other/g 7777 x => ok
		make /other/d 755 => ok
		make /other/e 7777 => ok
		make /other/d/d 0 => ok
		put /other/d/f 2070 x => ok
		upper => d:1.1(other=d2777:2.5(d=d2755:1.5(d=d2000:1.5 f=f70:1.5'x) e=d7777:1.5 f=f:1.5'x g=f5777:1.5'x))
	`)
	play(t, start(t, who(1, 1, 0, 3), 64, lower), `
		put /mine/g 7777 x => ok
		make /mine/e 7777 => ok
		put /plain/g 7777 x => ok
		make /plain/e 7777 => ok
		make /plain/f 755 => ok
		upper => d:1.1(mine=d2777:2.3(e=d7777:1.3 g=f7777:1.3'x) plain=d777:2.5(e=d7777:1.1 f=d:1.1 g=f7777:1.1'x))
	`)
	play(t, start(t, who(1, 1, api.CapSetid), 64, lower), `
		put /other/g 7777 x => ok
		put /other/h 644 x => ok
		make /other/e 5777 => ok
		upper => d:1.1(other=d2777:2.5(e=d7777:1.5 g=f7777:1.5'x h=f:1.5'x))
	`)
}

// One of an upper, too.
func TestB5SetGroupOfTheUpper(t *testing.T) {
	play(t, start(t, who(1, 1, 0, 5), 64, ""), `
		make /d 777 => ok
		own /d -1 5 => ok
		mode /d 2777 => ok
		be 1 5 => ok
		put /f 644 x => ok
		put /d/f 644 x => ok
		make /d/d 700 => ok
		upper => d:1.1(d=d2777:1.5(d=d2700:1.5 f=f:1.5'x) f=f:1.5'x)
	`)
}

func TestB5SetGroupUnmapped(t *testing.T) {
	play(t, start(t, who(1, 1, 15), 64, "d(user=d2777:15.1 group=d2777:1.8 both=d2777:90.90 no=d2775:90.90)"), `
		put /user/f 644 x => unmapped
		make /user/d 755 => unmapped
		put /group/f 644 x => unmapped
		make /group/d 755 => unmapped
		make /both/d 755 => unmapped
		make /no/d 755 => access
		upper => d:1.1
	`)
	// An upper whose ids the maps have not is a text's alone: nothing comes up that would tell it.
	upper, err := tree.Bytes(node("d:1001.2001(user=d2777:1.2001 group=d2777:1001.1 plain=d777:1.1)"))
	if err != nil {
		t.Fatal(err)
	}
	s := start(t, who(1, 1, 0), 1, "").Bytes()[:6] + upper
	c := config(admin(), 9)
	c.Maps.Groups = append(c.Maps.Groups, api.Range{In: api.Overflow, Out: api.Overflow, Count: 1})
	b, err := box.Load(c, nil, s)
	if err != nil {
		t.Fatal(err)
	}
	l := scene{b, nil}
	for _, line := range []string{"put /user/f 644 x", "make /user/d 755", "put /group/f 644 x", "make /group/d 755"} {
		do(t, l, line, call(line), api.Told{}, api.ErrUnmapped)
	}
	do(t, l, "make", call("make /plain/d 755"), api.Told{}, nil)
	n, there := tree.Find(b.Upper(), []string{"plain", "d"})
	if want := node("d:1001.2001"); !there || !same(n, want) {
		t.Errorf("%v, not %v", n, want)
	}
}

// A Dir is Opaque just if a White stood there.
func TestB5Opaque(t *testing.T) {
	play(t, start(t, admin(), 64, "d(a=f'x d=d(a=f b=d(c=f)) e=d)"), `
		make /n 755 => ok
		make /d/n 755 => ok
		remove /a => ok
		make /a 755 => ok
		remove /d/a => ok
		put /d/a 644 y => ok
		remove /e => ok
		upper => d(a=D d=d(a=f'y n=d) e=w n=d)
		make /e 700 => ok
		make /e/f 700 => ok
		upper => d(a=D d=d(a=f'y n=d) e=D700(f=d700) n=d)
		remove /d/b/c => ok
		make /d/b/c 755 => ok
		upper => d(a=D d=d(a=f'y b=d(c=D) n=d) e=D700(f=d700) n=d)
		remove /n => ok
		make /n 755 => ok
		upper => d(a=D d=d(a=f'y b=d(c=D) n=d) e=D700(f=d700) n=d)
	`)
	play(t, start(t, admin(), 64, "d(d=d(a=f'x b=d))"), `
		remove /d/a => ok
		remove /d/b => ok
		remove /d => ok
		make /d 755 => ok
		list /d => -
		make /d/b 755 => ok
		put /d/a 644 new => ok
		upper => d(d=D(a=f'new b=d))
		flat => d(d=d(a=f'new b=d))
	`)
}

// Its directory comes Up, with all that leads there, as it is seen.
func TestB5Up(t *testing.T) {
	play(t, start(t, admin(), 64, "d(a=d751:3.4[u.x~1](b=d2775:5.6(c=f q=d) d=f))|d(a=d700(b=d(r=f) e=f))"), `
		put /a/b/n 644 x => ok
		upper => d(a=d751:3.4[u.x~1](b=d2775:5.6(n=f:0.6'x)))
		list /a => b d e
		list /a/b => c n q r
	`)
	play(t, start(t, who(1, 1, 0), 64, "d(a=d777:90.1(b=d777:1.1) c=d777:1.1(d=d777:1.90))"), `
		put /a/b/n 644 x => unmapped
		make /c/d/n 755 => unmapped
		put /c/n 644 x => ok
		upper => d:1.1(c=d777:1.1(n=f:1.1'x))
	`)
}

// What a lower has is altered in the upper; the lower, and all beside it, stays.
func TestB6Altered(t *testing.T) {
	lower := "d(a=d(f=f6755:3.4[t.b~2,u.a~1]'old g=f) h=f)|d(a=d(f=f'hidden i=f'i))"
	play(t, start(t, admin(), 64, lower), `
		put /a/f 0 new => ok
		upper => d(a=d(f=f6755:3.4[t.b~2,u.a~1]'new))
		mode /a/f 7070 => ok
		upper => d(a=d(f=f7070:3.4[t.b~2,u.a~1]'new))
		own /a/f 12 -1 => ok
		upper => d(a=d(f=f7070:12.4[t.b~2,u.a~1]'new))
		set /a/f u.0 z => ok
		drop /a/f t.b => ok
		upper => d(a=d(f=f7070:12.4[u.0~z,u.a~1]'new))
		flat => d(a=d(f=f7070:12.4[u.0~z,u.a~1]'new g=f i=f'i) h=f)
	`)
	for line, want := range map[string]string{
		"mode /a 700": "d(a=d700)", "own /a 3 4": "d(a=d:3.4)", "set /a u.q 1": "d(a=d[u.q~1])", "mode /a/i 600": "d(a=d(i=f600'i))",
		"mode /a/f 600": "d(a=d(f=f600:3.4[t.b~2,u.a~1]'old))", "own /a/f -1 1": "d(a=d(f=f6755:3.1[t.b~2,u.a~1]'old))", "drop /a/f u.a": "d(a=d(f=f6755:3.4[t.b~2]'old))",
		"mode / 700": "d700", "own / 1 1": "d:1.1", "set / t.x 1": "d[t.x~1]",
	} {
		play(t, start(t, admin(), 64, lower), line+" => ok\n list /a => f g i\n upper => "+want)
	}
}

// A directory that is altered keeps what it has in the upper, and its being Opaque.
func TestB6AlteredDirectory(t *testing.T) {
	play(t, start(t, admin(), 64, "d(d=d(a=f b=f c=f) e=f)"), `
		remove /d/a => ok
		put /d/n 644 x => ok
		mode /d 711 => ok
		own /d 1 1 => ok
		remove /e => ok
		make /e 755 => ok
		put /e/f 600 y => ok
		set /e u.a 1 => ok
		mode / 750 => ok
		upper => d750(d=d711:1.1(a=w n=f'x) e=D[u.a~1](f=f600'y))
		list /d => b c n
	`)
}

// What would be more than the tree may have is told ahead of the quota.
func TestB6Many(t *testing.T) {
	b := start(t, admin(), 64, "d(low=d(f=f g=f'z) z=f)")
	for i := range 57 {
		play(t, b, fmt.Sprintf("make /d%d 755 => ok", i))
	}
	play(t, b, `
		put /low/g 644 x => ok
		upper => d(`+kids(57)+` low=d(g=f'x))
		make /n 755 => many
		put /n 644 *200 => many
		make /d1/n 755 => many
		put /low/f 644 x => many
		mode /low/f 600 => many
		remove /low/f => many
		remove /z => many
		move /z /y => many
		move /low/f /z => many
		move /low/f /low/g => many
		move /z /low/g => many
		put /low/g 644 *200 => ok
		remove /low/g => ok
		move /d1 /n => ok
		remove /n => ok
		move /z /low/g => ok
		move /low/f /low/g => many
	`)
	b = start(t, admin(), 13, "")
	for i := range 59 {
		play(t, b, fmt.Sprintf("make /%d 755 => ok", i+10))
	}
	play(t, b, `
		charge => 13
		put /n 644 *200 => many
		set / u.a *20 => ok
		set / u.b *20 => ok
		set / u.c - => ok
		set / u.c 1 => quota
	`)
}

// kids of a telling: so many directories in the order of their names.
func kids(n int) string {
	up := api.Node{Kind: api.Dir}
	for i := range n {
		up, _ = tree.Put(up, []string{fmt.Sprintf("d%d", i)}, node("d"))
	}
	s := tell(up)
	return s[len("d0(") : len(s)-1]
}

// One that takes just Quota, and one that takes a Block more, by each call that changes the upper.
func TestB6Quota(t *testing.T) {
	for _, x := range []struct {
		name, lower, first string
		free               int // so many bytes of a file leave room for the call, to the byte
		call               string
	}{
		{"what is put", "d", "", 42 - 12, "put /n 644 -"},
		{"what is put, with Data", "d", "", 42 - 12 - 7, "put /n 644 1234567"},
		{"what is made", "d", "", 42 - 12, "make /n 755"},
		{"what is altered", "d(n=f'1234)", "", 42 - 16, "mode /n 600"},
		{"what is set", "d", "", 42 - 5 - 8, "set /f u.b 12345678"},
		{"what is dropped", "d(n=f[u.a~1,u.b~2]'xyz)", "", 42 - 12 - 3 - 6, "drop /n u.a"},
		{"what is owned", "d(n=d(x=f))", "", 42 - 12, "own /n 1 1"},
		{"what is gone", "d(n=f'12345678)", "", 42 - 12, "remove /n"},
		{"what is gone, and its directory", "d(n=d(m=f'12345678))", "", 42 - 12 - 12, "remove /n/m"},
		{"what is moved", "d(n=f'12345678)", "", 42 - 12 - 20, "move /n /m"},
		{"what is moved, a longer name", "d", "make /n 755", 42 - 12 - 4, "move /n /12345"},
		{"what is moved onto a file", "d(n=f'1234)", "put /m 644 1234567890", 42 - 12 - 16, "move /n /m"},
	} {
		for over, want := range []string{"ok", "quota"} {
			b := start(t, admin(), 1, x.lower)
			if x.first != "" {
				play(t, b, x.first+" => ok")
			}
			play(t, b, fmt.Sprintf("put /f 644 *%d => ok", x.free+over))
			play(t, b, x.call+" => "+want+"\n charge => 1")
			if n := tree.Size(b.Upper()); want == "ok" && n != api.Block {
				t.Errorf("%s: %d bytes", x.name, n)
			}
		}
	}
}

// A change that leaves less is let, and so is one that takes what another one left.
func TestB6QuotaLess(t *testing.T) {
	play(t, start(t, admin(), 1, "d(low=f'1234567890123456789012345678901234567890)"), `
		put /a 644 *42 => ok
		put /b 644 - => quota
		mode /low 600 => quota
		put /a 644 *43 => quota
		put /a 644 *41 => ok
		put /a 644 *42 => ok
		mode /a 600 => ok
		move /a /b => ok
		move /b /bc => quota
		put /low 644 - => quota
		remove /b => ok
		put /low 644 - => ok
		put /low 644 *40 => ok
		put /low 644 *41 => quota
	`)
	// Only what is there at the end counts.
	play(t, start(t, admin(), 2, "d(low=f'12345)"), `
		put /a 644 *106 => ok
		move /low /a => ok
		upper => d(a=f'12345 low=w)
	`)
}

func TestB7Taken(t *testing.T) {
	lower := "d(w=d777(a=f:2.2 b=d:2.2) r=d555:1.1(a=f:1.1) s=d1777(a=f:2.2 b=f:1.2 c=d:2.2 d=f:1.90) m=d1777:1.1(a=f:2.2 u=f:90.90) u=d1777:90.1(a=f:1.1 b=f:2.2) v=d1770(a=f:1.1) y=d1555(a=f:2.2))"
	for caps, all := range map[int]string{
		0: `
			remove /w/a => ok
			remove /w/b => ok
			remove /r/a => access
			remove /s/a => perm
			remove /s/c => perm
			remove /s/d => perm
			remove /s/b => ok
			remove /m/a => ok
			remove /m/u => ok
			remove /u/a => unmapped
			remove /u/b => perm
			remove /v/a => access
			remove /y/a => access
			move /y/a /y/a => access
			move /w /x => cross
			move /s/a /x => perm
			move /r/a /x => access
			upper => d:1.1(m=d1777:1.1(a=w u=w) s=d1777(b=w) w=d777(a=w b=w))
		`,
		api.CapOwner: `
			remove /s/a => ok
			remove /s/c => ok
			remove /s/d => perm
			remove /u/b => unmapped
			remove /r/a => access
		`,
		api.CapAccess: `
			remove /r/a => ok
			remove /s/a => perm
			remove /v/a => ok
			remove /u/b => perm
		`,
	} {
		play(t, start(t, who(1, 1, caps), 64, lower), all)
	}
}

// What a lower has, what the upper alone has, what both have.
func TestB7Gone(t *testing.T) {
	lower := "d(a=f'x d=d(a=f b=d e=f) e=d)|d(d=d(b=d f=f) g=f)"
	play(t, start(t, admin(), 64, lower), `
		remove /a => ok
		upper => d(a=w)
		put /n 644 x => ok
		remove /n => ok
		upper => d(a=w)
		put /g 644 x => ok
		upper => d(a=w g=f'x)
		remove /g => ok
		upper => d(a=w g=w)
		remove /d/b => ok
		upper => d(a=w d=d(b=w) g=w)
		remove /d/f => ok
		put /d/e 644 y => ok
		put /d/n 644 y => ok
		remove /d/n => ok
		remove /d/e => ok
		upper => d(a=w d=d(b=w e=w f=w) g=w)
		remove /d => filled
		remove /d/a => ok
		list /d => -
		remove /d => ok
		upper => d(a=w d=w g=w)
		list / => e
		mode /e 700 => ok
		remove /e => ok
		upper => d(a=w d=w e=w g=w)
		flat => d
	`)
}

// What was gone and was made anew is the upper's alone: it leaves a White again, and what is in it none.
func TestB7GoneAgain(t *testing.T) {
	play(t, start(t, admin(), 64, "d(d=d(a=f) f=f)"), `
		remove /d/a => ok
		remove /d => ok
		make /d 755 => ok
		put /d/a 644 x => ok
		put /d/b 644 x => ok
		remove /d/a => ok
		remove /d/b => ok
		upper => d(d=D)
		make /d/a 755 => ok
		remove /d => filled
		remove /d/a => ok
		remove /d => ok
		upper => d(d=w)
		put /d 644 x => ok
		upper => d(d=f'x)
		remove /d => ok
		remove /f => ok
		put /f 644 x => ok
		remove /f => ok
		upper => d(d=w f=w)
	`)
}

// A directory of lowers and upper is filled, whoever has what is in it.
func TestB7Filled(t *testing.T) {
	play(t, start(t, admin(), 64, "d(a=d(x=f) b=d c=d)|d(b=d(y=f))"), `
		remove /a => filled
		remove /b => filled
		put /c/n 644 x => ok
		remove /c => filled
		remove /c/n => ok
		remove /c => ok
		remove /a/x => ok
		remove /a => ok
		remove /b/y => ok
		remove /b => ok
		upper => d(a=w b=w c=w)
	`)
}
