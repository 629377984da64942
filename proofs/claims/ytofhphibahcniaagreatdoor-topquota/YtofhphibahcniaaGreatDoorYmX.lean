/-
  TopQuota: Ym Al Am.
-/
import Derived.Test.YtofhphibahcniaaGreatDoorApX
import Derived.Test.YtofhphibahcniaaGreatDoorXwX
import Derived.Test.YtofhphibahcniaaGreatDoorYhX
import Derived.Test.YtofhphibahcniaaGreatDoorYbX
set_option maxRecDepth 100000
set_option maxHeartbeats 16000000
namespace Go.Proofs.YtofhphibahcniaaGreatDoor
open Go.RowKit Go.Proofs.Tryz
def Dd(w:World)(b:Nat):Prop:=(w.cell? ⟨b,0,none⟩=some (.int .i64 0)∧w.cell? ⟨b,1,none⟩=some (.int .i64 0)∧w.cell? ⟨b,2,none⟩=some (.int .i64 0)∧w.cell? ⟨b,3,none⟩=some (.int .i64 0)∧w.cell? ⟨b,4,none⟩=some (.int .i64 0)∧w.cell? ⟨b,5,none⟩=some (.slice none 0 0)∧w.cell? ⟨b,6,none⟩=some (.string ⟨#[]⟩))∧∀j,w.frozen? ⟨b,j,none⟩=false
structure Gx where
 k:Int
 m:Int
 u:Int
 g:Int
 n:Int
 nm:List BA
 d:BA
def JN:Gx:=⟨0,0,0,0,0,[],⟨#[]⟩⟩
def GQ(w:World)(S:Nat→Bool)(F:Int×Gx)(e:Ending):Prop:=∃a cap,e=.returned (.tuple #[.agg #[.int .i64 F.2.k,.int .i64 F.2.m,.int .i64 F.2.u,.int .i64 F.2.g,.int .i64 F.2.n,.slice a F.2.nm.length cap,.string F.2.d],Am F.1])∧(F.2.nm.length≤cap∧cap≤9223372036854775807)∧AW (Ag w.cell? S) a F.2.nm
theorem LW{w:World}{S:Nat→Bool}{E:Int}{v:Value}(h:Am E=v):GQ w S (E,JN) (.returned (.tuple #[.agg #[.int .i64 0,.int .i64 0,.int .i64 0,.int .i64 0,.int .i64 0,.slice none 0 0,.string ⟨#[]⟩],v])):=⟨none,0,by rw[←h];rfl,⟨nn _,by decide⟩,.inl rfl⟩
theorem Dd.new(w:World)(b:Nat)(hb:b=w.heap.size):Dd (w.alloc (.cells #[.int .i64 0,.int .i64 0,.int .i64 0,.int .i64 0,.int .i64 0,.slice none 0 0,.string ⟨#[]⟩] 44)) b:=⟨⟨nl _ _ _ _ hb,nl _ _ _ _ hb,nl _ _ _ _ hb,nl _ _ _ _ hb,nl _ _ _ _ hb,nl _ _ _ _ hb,nl _ _ _ _ hb⟩,fun _=>nQ _ _ _ _ hb⟩
theorem Dd.lt{w:World}{b:Nat}(h:Dd w b):b<w.heap.size:=nz w ⟨b,0,none⟩ h.1.1
theorem Dd.below{w w':World}{b:Nat}(h:Dd w b)(hb:Bw w w'):Dd w' b:=by
 obtain⟨⟨F,G,H,I,J,O,Q⟩,R⟩:=id h;exact⟨⟨Af hb F,Af hb G,Af hb H,Af hb I,Af hb J,Af hb O,Af hb Q⟩,fun j=>(hb.frozen (p:=⟨b,j,none⟩) h.lt).trans (R j)⟩
def Bf(w:World)(b:Nat)(v0 F G v3 v4 v5 H:Value):World:=((((((w.setCell ⟨b,0,none⟩ v0).setCell ⟨b,1,none⟩ F).setCell ⟨b,2,none⟩ G).setCell ⟨b,3,none⟩ v3).setCell ⟨b,4,none⟩ v4).setCell ⟨b,5,none⟩ v5).setCell ⟨b,6,none⟩ H
theorem EU{G w:World}{n b:Nat}{v0 H I v3 v4 v5 J:Value}(F:n≤b)(h:Below n G w):Below n G (Bf w b v0 H I v3 v4 v5 J):=((((((h.setCell (p:=⟨b,0,none⟩) F _).setCell (p:=⟨b,1,none⟩) F _).setCell (p:=⟨b,2,none⟩) F _).setCell (p:=⟨b,3,none⟩) F _).setCell (p:=⟨b,4,none⟩) F _).setCell (p:=⟨b,5,none⟩) F _).setCell (p:=⟨b,6,none⟩) F _
theorem Dd.store{w:World}{b:Nat}(h:Dd w b)(v0 F G v3 v4 v5 H:Value):(Bf w b v0 F G v3 v4 v5 H).cell? ⟨b,0,none⟩=some v0∧(Bf w b v0 F G v3 v4 v5 H).cell? ⟨b,1,none⟩=some F∧(Bf w b v0 F G v3 v4 v5 H).cell? ⟨b,2,none⟩=some G∧(Bf w b v0 F G v3 v4 v5 H).cell? ⟨b,3,none⟩=some v3∧(Bf w b v0 F G v3 v4 v5 H).cell? ⟨b,4,none⟩=some v4∧(Bf w b v0 F G v3 v4 v5 H).cell? ⟨b,5,none⟩=some v5∧(Bf w b v0 F G v3 v4 v5 H).cell? ⟨b,6,none⟩=some H:=by
 obtain⟨⟨I,J,O,Q,R,T,V⟩,_⟩:=h;unfold Bf;refine⟨?_,?_,?_,?_,?_,?_,?_⟩
 ·rw[AA (by omega),AA (by omega),AA (by omega),AA (by omega),AA (by omega),AA (by omega)];exact nI _ _ _ I
 ·rw[AA (by omega),AA (by omega),AA (by omega),AA (by omega),AA (by omega)];exact nI _ _ _ ((AA (by omega)).trans J)
 ·rw[AA (by omega),AA (by omega),AA (by omega),AA (by omega)];exact nI _ _ _ ((AA (by omega)).trans ((AA (by omega)).trans O))
 ·rw[AA (by omega),AA (by omega),AA (by omega)];exact nI _ _ _ ((AA (by omega)).trans ((AA (by omega)).trans ((AA (by omega)).trans Q)))
 ·rw[AA (by omega),AA (by omega)];exact nI _ _ _ ((AA (by omega)).trans ((AA (by omega)).trans ((AA (by omega)).trans ((AA (by omega)).trans R))))
 ·rw[AA (by omega)];exact nI _ _ _ ((AA (by omega)).trans ((AA (by omega)).trans ((AA (by omega)).trans ((AA (by omega)).trans ((AA (by omega)).trans T)))))
 ·exact nI _ _ _ ((AA (by omega)).trans ((AA (by omega)).trans ((AA (by omega)).trans ((AA (by omega)).trans ((AA (by omega)).trans ((AA (by omega)).trans V))))))
theorem Kd{w:World}{b:Nat}{v0 F G v3 v4 v5 H:Value}:Ao b w (Bf w b v0 F G v3 v4 v5 H):=(((((((Ao.refl b w).setCell 0 none _).setCell 1 none _).setCell 2 none _).setCell 3 none _).setCell 4 none _).setCell 5 none _).setCell 6 none _
theorem Sw{c:AH}{w:World}{n:Nat}{a:Option Addr}{nf:List BA}(h:AW c a nf)(J:∀o v,c ⟨n,o,none⟩=some v→w.cell? ⟨n,o,none⟩=some v)(O:∀s∈nf,s≠⟨#[]⟩)(Q:Dd w n)(R:∀o,7≤o→w.cell? ⟨n,o,none⟩=none):AW (Ag c (fun k=>k==n)) a nf:=by
 rcases h with h|⟨b,F,T,V⟩
 ·exact .inl h
 ·refine .inr ⟨b,F,T,fun i x G=>?_⟩
  have H:=V i x G;unfold Ag;by_cases e:b=n
  ·subst e
   exfalso;have hx:=J _ _ H;obtain⟨⟨t0,Y,Z,t3,t4,t5,aa⟩,_⟩:=Q;rcases Nat.lt_or_ge (F+i) 7 with I|I
   ·rcases(by omega:F+i=0∨F+i=1∨F+i=2∨F+i=3∨F+i=4∨F+i=5∨F+i=6)with q|q|q|q|q|q|q<;>rw[q]at hx
    ·rw[t0]at hx;cases hx
    ·rw[Y]at hx;cases hx
    ·rw[Z]at hx;cases hx
    ·rw[t3]at hx;cases hx
    ·rw[t4]at hx;cases hx
    ·rw[t5]at hx;cases hx
    ·rw[aa]at hx
     injection hx with hx
     injection hx with hx
     exact O x (nE G) hx.symm
   ·rw[R _ I]at hx;cases hx
  ·rw[nC (by simpa using e)]
   exact H
def G9(n r:Nat):Nat→Bool:=fun k=>k==r||k==n
theorem Z5(c:AH)(n r:Nat):Ag (Ag c (fun k=>k==n)) (fun k=>k==r)=Ag c (G9 n r):=by
 funext q
 unfold Ag G9;by_cases F:q.block=r
 ·simp[F]
 ·by_cases G:q.block=n
  ·simp[G]
  ·simp[F,G]
theorem dD{w w':World}{n r:Nat}(hb:Bw w w')(H:w.heap.size≤n)(I:w.heap.size≤r):AR w.cell? (Ag w'.cell? (G9 n r)):=fun q v F=>by
 have G:=nz _ _ F;unfold Ag G9;rw[nC (by simp;omega)];exact(hb.cell G).trans F
theorem cU{w w':World}{n r:Nat}(hb:Ao n w w'):AR (Ag w.cell? (G9 n r)) (Ag w'.cell? (fun k=>k==r)):=fun q v F=>by
 unfold Ag G9 at F;split at F
 ·cases F
 ·rename_i G
  have G:q.block≠r∧q.block≠n:=by simpa using G
  unfold Ag;rw[nC (by simpa using G.1)];exact(hb.cell (nz _ _ F) G.2).trans F
theorem Kn{B:Bx}{w:World}{nf:List BA}{x0:Nd}{ni:List Nd}{t dir:Th}{na:Option Addr}{nc:Nat}{nm:List BA}{I:Bool}{J O Q R:Int}{T:Bool}{F:List Kv}{V:BA}{xs:Ar}{Y:Hd}{ly:Int}(G:Bv B x0 ni)(h:GS B w nf ⟨t,dir,na,nc,nm,I,.mk J O Q R T F V xs,Y,ly⟩)(Z:I=true):F.length≤255∧EP F:=by
 obtain⟨q,r,aa,H,_⟩:=h.there Z;dsimp only at H
 have e:=Rr (xs:=B.xs) (fun x hx=>by
  rw[G.xs]at hx;rcases nY.1 hx with rfl|hx
  ·exact G.fine.lil
  ·exact G.lils x hx) nf q (by rw[aa];exact nK ..)
 obtain⟨⟨k,m,u,g,o,nh,d,ks⟩,l⟩:=q;rw[AB]at e;simp only[Nd.with,Nd.mk.injEq]at H;obtain⟨_,_,_,_,_,rfl,_⟩:=H;exact⟨e.1.1,e.1.2⟩
theorem UF{w:World}{b:Nat}{a:Addr}{v v0 G H v3 v4 v5 I:Value}(F:a.block≠b)(h:w.cell? a=some v):(((((((w.setCell ⟨b,0,none⟩ v0).setCell ⟨b,1,none⟩ G).setCell ⟨b,2,none⟩ H).setCell ⟨b,3,none⟩ v3).setCell ⟨b,4,none⟩ v4).setCell ⟨b,5,none⟩ v5).setCell ⟨b,6,none⟩ I).cell? a=some v:=by
 rw[Bk F,Bk F,Bk F,Bk F,Bk F,Bk F,Bk F];exact h
def Nd.dat:Nd→BA
 |.mk _ _ _ _ _ _ d _=>d
def Nd.atl:Nd→List Kv
 |.mk _ _ _ _ _ a _ _=>a
noncomputable def AO.reaT (c:AO) (p:BA):Int×Gx:=match c.opP p false with
 |.error E=>(E,JN)
 |.ok f=>(0,⟨0,0,0,0,0,[],f.2.2.2.1.dat⟩)
noncomputable def AO.lisT (c:AO) (p:BA):Int×Gx:=match c.opP p true with
 |.error E=>(E,JN)
 |.ok _=>(0,⟨0,0,0,0,0,CS (AI c.xs (A4 p.data.toList)),⟨#[]⟩⟩)
noncomputable def AO.staT (c:AO) (p:BA):Int×Gx:=match c.atP true p with
 |.error E=>(E,JN)
 |.ok f=>(0,⟨f.2.2.2.1.kind,f.1.m,f.1.u,f.1.g,if f.1.d=true then((CS (AI c.xs (A4 p.data.toList))).length:Int)else(f.2.2.2.1.dat.size:Int),[],⟨#[]⟩⟩)
noncomputable def AO.getT (c:AO) (cop:Int) (p F dat:BA):Int×Gx:=match c.deP cop p F dat 4 with
 |.error E=>(E,JN)
 |.ok f=>(FU f.2.2.2.1.atl F,⟨0,0,0,0,0,[],Gp f.2.2.2.1.atl F⟩)
theorem Yr{w:World}{b:Nat}{B:Bx}{x0:Nd}{ni:List Nd}(h:AX w b B)(a1:Bv B x0 ni){cop cA cB:Int}{cpath coth cname cdata:BA}(bl:Int)(bn:w.cell? ⟨0,0,none⟩=some (.int .i64 bl)){SS:Nat→Bool}:
 Calls prog 29 #[.pointer (some ⟨b,0,none⟩),.agg #[.int .i64 cop,.string cpath,.string coth,.string cname,.string cdata,.int .i64 cA,.int .i64 cB]] w fun e w'=>GQ w' SS (B.cor.reaT cpath) e∧Bw w w':=by
 obtain⟨a6,Q⟩:∃a6,Hid (B.cor.reaT cpath=a6):=⟨_,rfl⟩;rw[Q.out];unfold AO.reaT at Q;have a7:Bw w (w.alloc (Az cop cpath coth cname cdata cA cB)):=(nv _ _).alloc (nn _) _;have ap:Bw w ((w.alloc (Az cop cpath coth cname cdata cA cB)).alloc C9):=a7.alloc a7.size _;have a8:=hid ap;have ba:Hid (Dd ((w.alloc (Az cop cpath coth cname cdata cA cB)).alloc C9) (w.heap.size+1)):=Dd.new _ _ (by rw[nw]);obtain⟨c3,c4,c5,c6,c8,c9,da⟩:=c7 w cop cpath coth cname cdata cA cB C9;have bo:=hid (RJ (h.below ap) a1 cpath false bl (Af ap bn));have db:=hid h;have b0:=hid a1;clear h a1 ap a7 bn;go_enter func29,ntmps29;go_upto_region 1 with fail
 generalize((w.alloc (Az cop cpath coth cname cdata cA cB)).alloc C9)=dd at*;go_wp2_with fail
 refine np bo.out ?_;rintro e H ⟨b1,q2⟩;clear bo;obtain⟨cs,E,rfl,bb,bp,bs,bu⟩:=b1;obtain⟨G,de,I,bd,b2⟩:=F5 H cs bb bp;have b3:=BV cs;unfold Value.cells at b3;have dg:=hid bb;have bv:=hid (q2.trans (bd.out.mono q2.size));have bx:=hid (a8.out.trans (bv.out.mono a8.out.size));have bA:Hid _:=bs;have bB:Hid _:=bu;have dj:=hid (nP a8.out.size q2.size);clear bp bs bb bu;have dk:=hid (nH ba.out.lt q2.size);have ar:=hid (ba.out.below bv.out);clear ba;by_cases be:E=0
 ·subst be
  obtain⟨f,J,bC,bf,bg,bF,ay,bi,bG⟩:=bA.out rfl;clear bA bB;rw[bG]at Q;have az:=Fs bC;rw[←bf]at az;rw[show Am 0=Value.nilIface from rfl];obtain⟨⟨b4,b5,b6,b7,dm⟩,dn,na,nc,nf,dp,⟨b9,dr,ds,du,dw,cb,R,xs⟩,bH,ly⟩:=f;dsimp only at bf bg bF ay bi az;replace Q:Hid ((0,⟨0,0,0,0,0,[],R⟩)=a6):=Q.out;have dx:Ce G H.heap.size 0 (.bool b4):=I.out 0 _ (by rw[J];rfl);have dy:Ce G H.heap.size 1 (.int .i64 b5):=I.out 1 _ (by rw[J];rfl);have dz:Ce G H.heap.size 2 (.int .i64 b6):=I.out 2 _ (by rw[J];rfl);have d0:Ce G H.heap.size 3 (.int .i64 b7):=I.out 3 _ (by rw[J];rfl);have d1:Ce G H.heap.size 10 (.slice na nf.length nc):=I.out 10 _ (by rw[J];rfl);have d2:Ce G H.heap.size 12 (.int .i64 b9):=I.out 12 _ (by rw[J];rfl);have d3:Ce G H.heap.size 17 (.slice bH.aa cb.length bH.ca):=I.out 17 _ (by rw[J];rfl);have d4:Ce G H.heap.size 18 (.string R):=I.out 18 _ (by rw[J];rfl);have d5:=hid (bg.on (Aj bd.out));have d6:=hid az.2.1;have d7:=hid (ay.nd.on (Aj bd.out));have d8:=hid (Kn b0.out ay (bi rfl));clear J bC bf bg bF ay bi bG az b2 I;have T:Hid (Bw w (Bf G (w.heap.size+1) (.int .i64 0) (.int .i64 0) (.int .i64 0) (.int .i64 0) (.int .i64 0) (.slice none 0 0) (.string R))):=EU (by omega) (bx.out);obtain⟨V,Y,Z,aa,ab,ad,ak⟩:=(ar.out).store (.int .i64 0) (.int .i64 0) (.int .i64 0) (.int .i64 0) (.int .i64 0) (.slice none 0 0) (.string R);obtain⟨⟨t0,cd,cf,t3,t4,t5,cg⟩,F⟩:=id (ar.out);have ch:=F 0;have cl:=F 1;have co:=F 2;have cp:=F 3;have cr:=F 4;have cu:=F 5;have cx:=F 6;obtain⟨ao,O⟩:∃ao,Bf G (w.heap.size+1) (.int .i64 0) (.int .i64 0) (.int .i64 0) (.int .i64 0) (.int .i64 0) (.slice none 0 0) (.string R)=ao:=⟨_,rfl⟩;rw[O]at V Y Z aa ab ad ak T;unfold Bf at O;have bk:Hid _:=O;clear O F;go_wp2;rw[bk.out];refine nG (v:=.tuple #[.agg #[.int .i64 0,.int .i64 0,.int .i64 0,.int .i64 0,.int .i64 0,.slice none 0 0,.string R],.nilIface]) (by simp[results,results29,go_sem,V,Y,Z,aa,ab,ad,ak]) rfl ⟨by rw[←Q.out];exact⟨none,0,rfl,⟨nn _,by decide⟩,.inl rfl⟩,T.out⟩
 ·have bY:=AG (n:=E) rfl be
  rw[bB.out be]at Q;rw[bY];have T:Hid (Bw w (Bf G (w.heap.size+1) (.int .i64 0) (.int .i64 0) (.int .i64 0) (.int .i64 0) (.int .i64 0) (.slice none 0 0) (.string ⟨#[]⟩))):=EU (by omega) (bx.out);obtain⟨V,Y,Z,aa,ab,ad,ak⟩:=(ar.out).store (.int .i64 0) (.int .i64 0) (.int .i64 0) (.int .i64 0) (.int .i64 0) (.slice none 0 0) (.string ⟨#[]⟩);obtain⟨⟨t0,cd,cf,t3,t4,t5,cg⟩,F⟩:=id (ar.out);have ch:=F 0;have cl:=F 1;have co:=F 2;have cp:=F 3;have cr:=F 4;have cu:=F 5;have cx:=F 6;obtain⟨ao,O⟩:∃ao,Bf G (w.heap.size+1) (.int .i64 0) (.int .i64 0) (.int .i64 0) (.int .i64 0) (.int .i64 0) (.slice none 0 0) (.string ⟨#[]⟩)=ao:=⟨_,rfl⟩;rw[O]at V Y Z aa ab ad ak T;unfold Bf at O;have bk:Hid _:=O;clear O F;go_wp2;rw[bk.out];refine nG (v:=.tuple #[.agg #[.int .i64 0,.int .i64 0,.int .i64 0,.int .i64 0,.int .i64 0,.slice none 0 0,.string ⟨#[]⟩],.iface 78 (.int .i64 E)]) (by simp[results,results29,go_sem,V,Y,Z,aa,ab,ad,ak]) rfl ⟨by rw[←Q.out];exact LW bY,T.out⟩
theorem Yq{w:World}{b:Nat}{B:Bx}{x0:Nd}{ni:List Nd}(h:AX w b B)(bg:Bv B x0 ni){cop cA cB:Int}{cpath coth cname cdata:BA}(b2:Int)(b3:w.cell? ⟨0,0,none⟩=some (.int .i64 b2)){bi:World}(b4:AX bi b B)(b5:Bw bi w){r:Nat}(ds:bi.heap.size≤r)(bk:Dd w r)(b6:∀o,7≤o→w.cell? ⟨r,o,none⟩=none):
 Calls prog 28 #[.pointer (some ⟨b,0,none⟩),.agg #[.int .i64 cop,.string cpath,.string coth,.string cname,.string cdata,.int .i64 cA,.int .i64 cB]] w fun e w'=>GQ w' (fun k=>k==r) (B.cor.lisT cpath) e∧Bw w w':=by
 obtain⟨bl,I⟩:∃bl,Hid (B.cor.lisT cpath=bl):=⟨_,rfl⟩;rw[I.out];unfold AO.lisT at I;have bn:Bw w (w.alloc (Az cop cpath coth cname cdata cA cB)):=(nv _ _).alloc (nn _) _;have Y:Bw w ((w.alloc (Az cop cpath coth cname cdata cA cB)).alloc C9):=bn.alloc bn.size _;have bo:=hid Y;have du:=bk.lt;have bp:=hid (bk.below Y);have b7:Hid (∀o,7≤o→((w.alloc (Az cop cpath coth cname cdata cA cB)).alloc C9).cell? ⟨r,o,none⟩=none):=fun o V=>(Y.cell (p:=⟨r,o,none⟩) du).trans (b6 o V);have dw:=hid b4
 have dx:=hid b5;have b9:Hid (∀o,7≤o→((w.alloc (Az cop cpath coth cname cdata cA cB)).alloc C9).cell? ⟨w.heap.size+1,o,none⟩=none):=fun o V=>by
  rw[nl _ _ _ _ (by rw[nw])];exact rG (by simpa using V)
 have bb:Hid (Dd ((w.alloc (Az cop cpath coth cname cdata cA cB)).alloc C9) (w.heap.size+1)):=Dd.new _ _ (by rw[nw]);obtain⟨e2,e3,e4,e5,e6,e7,e8⟩:=c7 w cop cpath coth cname cdata cA cB C9;have cb:=hid (RJ (h.below Y) bg cpath true b2 (Af Y b3));have cd:=hid h;have aa:=hid bg;clear h bg Y bn b3 b4 bk b6;go_enter func28,ntmps28;go_upto_region 1 with fail
 generalize((w.alloc (Az cop cpath coth cname cdata cA cB)).alloc C9)=e9 at*;go_wp2_with fail
 refine np cb.out ?_;rintro e H ⟨dy,q2⟩;clear cb;obtain⟨cs,E,rfl,bs,cf,cg,ch⟩:=dy;obtain⟨F,fa,J,bu,dz⟩:=F5 H cs bs cf;have d0:=BV cs;unfold Value.cells at d0;have fb:=hid bs;have ab:=hid (q2.trans (bu.out.mono q2.size));have bd:=hid (bo.out.trans (ab.out.mono bo.out.size));have cl:Hid _:=cg;have co:Hid _:=ch;have fc:=hid (nP bo.out.size q2.size);clear cf cg bs ch;have d1:=hid (nH bb.out.lt q2.size);have ad:=hid (bb.out.below ab.out);have cp:Hid (∀o,7≤o→F.cell? ⟨w.heap.size+1,o,none⟩=none):=fun o V=>(ab.out.cell (p:=⟨w.heap.size+1,o,none⟩) bb.out.lt).trans (b9.out o V);have cr:=hid (bp.out.below ab.out)
 have cu:Hid (∀o,7≤o→F.cell? ⟨r,o,none⟩=none):=fun o V=>(ab.out.cell (p:=⟨r,o,none⟩) bp.out.lt).trans (b7.out o V);clear bb b9 bp b7
 by_cases bv:E=0
 ·subst bv
  obtain⟨f,O,cx,ak,bx,c3,be,bA,c4⟩:=cl.out rfl;clear cl co;rw[c4]at I;have bf:=Fs cx;rw[←ak]at bf;rw[show Am 0=Value.nilIface from rfl];obtain⟨⟨d2,d3,d4,d5,fd⟩,fe,na,nc,nf,ff,⟨d6,fg,fh,fl,fr,d7,d8,xs⟩,c5,ly⟩:=f;dsimp only at ak bx c3 be bA bf;replace I:Hid ((0,⟨0,0,0,0,0,CS (AI B.xs (A4 cpath.data.toList)),⟨#[]⟩⟩)=bl):=I.out;have bB:∀s∈nf,s≠⟨#[]⟩:=by rw[ak];exact(Da _).2
  rw[←ak,aa.out.xs]at I;obtain⟨Q,c6⟩:∃l,Hid (CS (AI (x0::ni) nf)=l):=⟨_,rfl⟩;rw[c6.out]at I;have fs:Ce F H.heap.size 0 (.bool d2):=J.out 0 _ (by rw[O];rfl);have c8:Ce F H.heap.size 1 (.int .i64 d3):=J.out 1 _ (by rw[O];rfl);have c9:Ce F H.heap.size 2 (.int .i64 d4):=J.out 2 _ (by rw[O];rfl);have da:Ce F H.heap.size 3 (.int .i64 d5):=J.out 3 _ (by rw[O];rfl);have d9:Ce F H.heap.size 10 (.slice na nf.length nc):=J.out 10 _ (by rw[O];rfl);have fv:Ce F H.heap.size 12 (.int .i64 d6):=J.out 12 _ (by rw[O];rfl);have fx:Ce F H.heap.size 17 (.slice c5.aa d7.length c5.ca):=J.out 17 _ (by rw[O];rfl);have fY:Ce F H.heap.size 18 (.string d8):=J.out 18 _ (by rw[O];rfl);have ea:=hid (bx.on (Aj bu.out));have eb:=hid bf.2.1;have f0:=hid (be.nd.on (Aj bu.out));have f1:=hid (Kn aa.out be (bA rfl));clear O cx ak bx c3 be bA c4 bf dz J;have bC:=cd.out.below bd.out;have db:=bC.lay;have bF:=bC.cells.2.2.1;rw[aa.out.xs]at db bF;have bG:Ce F.drew b 2 (.slice B.la (ni.length+1) B.lc)∧Ce F.drew H.heap.size 10 (.slice na nf.length nc):=⟨bF,d9⟩;have ec:b<w.heap.size:=nz w ⟨b,2,none⟩ cd.out.cells.2.2.1;have ed:=d1.out;have ee:Hid (b≠w.heap.size+1):=by
   exact(by omega:b≠w.heap.size+1)
  have ef:Hid (H.heap.size≠w.heap.size+1):=by
   exact(by omega:H.heap.size≠w.heap.size+1)
  clear ec ed;have dd:=b5.size
  have bH:=hid (Sw (n:=r) (Sw ea.out (fun _ _ e=>e) bB ad.out cp.out) (fun o v e=>(by
   unfold Ag at e;split at e
   ·cases e
   ·exact e)) bB cr.out cu.out)
  rw[Z5]at bH;have bY:=dw.out.lay.on (dD (n:=w.heap.size+1) (r:=r) (dx.out.trans (bd.out.mono dd)) (by omega) ds);rw[aa.out.xs]at bY;have de:=hid bY;clear bY bB cp cu dd;have dg:Hid (Calls prog 45 #[.slice B.la (ni.length+1) B.lc,.slice na nf.length nc] F.drew fun e w'=>(∃a cap,e=.returned (.slice a Q.length cap)∧(Q.length≤cap∧cap≤9223372036854775807)∧AW (Ag w'.cell? (G9 (w.heap.size+1) r)) a Q)∧Bw F.drew w'):=by
   rw[←c6.out]
   refine np (Nr (w:=F.drew) (S:=G9 (w.heap.size+1) r) (xs:=x0::ni) (a:=B.la) (cap:=B.lc) (an:=na) (nj:=nc) (nf:=nf) (fun k eg=>(by
    have e:k=r∨k=w.heap.size+1:=by simpa [G9]using eg
    rcases e with rfl|rfl
    ·exact cr.out.lt
    ·exact ad.out.lt)) de.out bH.out (aa.out.sz.ok (by omega)) (by have:=eb.out;omega)) ?_
   rintro e w' ⟨⟨ej,c1,c8,da,ek,el⟩,c9⟩;exact⟨⟨ej,c1,c8,⟨da,ek⟩,el⟩,c9⟩
  clear bH de;have dj:=hid bd.out.drew;clear db bF bC;go_upto_region 4 with fail
  go_region_held3 (fun w'=>Ce w' b 2 (.slice B.la (ni.length+1) B.lc)∧Ce w' H.heap.size 10 (.slice na nf.length nc)) (first|with_reducible exact bG|with_reducible exact b0|exact⟨UF ee.out b0.1,UF ef.out b0.2⟩) (first|(go_at_call 45;(with_reducible refine np dg.out ?_);rintro e T ⟨⟨la,Z,rfl,dk,dm⟩,ao⟩;have em:=hid dk;have en:=hid dm;clear dk dm;have b0:Ce T b 2 (.slice B.la (ni.length+1) B.lc)∧Ce T H.heap.size 10 (.slice na nf.length nc):=⟨Af ao bG.1,Af ao bG.2⟩;have eo:Hid (Bw w T):=dj.out.trans (ao.mono dj.out.size);have ep:Hid (Bw F T):=(nv _ _).drew.trans ao;have dn:Hid (Dd T (w.heap.size+1)):=ad.out.below ep.out;obtain⟨⟨t0,eq,er,t3,t4,t5,es⟩,G⟩:=id dn.out;have eu:=G 0;have ev:=G 1;have eB:=G 2;have eE:=G 3;have eL:=G 4;have e0:=G 5;have e1:=G 6;clear G dg ao))
  all_goals
   have ap:Hid (Bw w (Bf T (w.heap.size+1) (.int .i64 0) (.int .i64 0) (.int .i64 0) (.int .i64 0) (.int .i64 0) (.slice la Q.length Z) (.string ⟨#[]⟩))):=EU (by omega) (eo.out);obtain⟨ar,ay,az,a1,a6,a7,a8⟩:=(dn.out).store (.int .i64 0) (.int .i64 0) (.int .i64 0) (.int .i64 0) (.int .i64 0) (.slice la Q.length Z) (.string ⟨#[]⟩);have dp:Hid (AW (Ag (Bf T (w.heap.size+1) (.int .i64 0) (.int .i64 0) (.int .i64 0) (.int .i64 0) (.int .i64 0) (.slice la Q.length Z) (.string ⟨#[]⟩)).cell? (fun k=>k==r)) la Q):=en.out.on (cU Kd);obtain⟨ba,R⟩:∃ba,Bf T (w.heap.size+1) (.int .i64 0) (.int .i64 0) (.int .i64 0) (.int .i64 0) (.int .i64 0) (.slice la Q.length Z) (.string ⟨#[]⟩)=ba:=⟨_,rfl⟩;rw[R]at ar ay az a1 a6 a7 a8 ap dp;unfold Bf at R;have b1:Hid _:=R;clear R;rw[b1.out];go_wp2;refine nG (v:=.tuple #[.agg #[.int .i64 0,.int .i64 0,.int .i64 0,.int .i64 0,.int .i64 0,.slice la Q.length Z,.string ⟨#[]⟩],.nilIface]) (by simp[results,results28,go_sem,ar,ay,az,a1,a6,a7,a8]) rfl ⟨by rw[←I.out];exact⟨la,Z,rfl,em.out,dp.out⟩,ap.out⟩
 ·have dr:=AG (n:=E) rfl bv
  rw[co.out bv]at I;rw[dr];have ap:Hid (Bw w (Bf F (w.heap.size+1) (.int .i64 0) (.int .i64 0) (.int .i64 0) (.int .i64 0) (.int .i64 0) (.slice none 0 0) (.string ⟨#[]⟩))):=EU (by omega) (bd.out);obtain⟨ar,ay,az,a1,a6,a7,a8⟩:=(ad.out).store (.int .i64 0) (.int .i64 0) (.int .i64 0) (.int .i64 0) (.int .i64 0) (.slice none 0 0) (.string ⟨#[]⟩);obtain⟨⟨t0,eq,er,t3,t4,t5,es⟩,G⟩:=id (ad.out);have eu:=G 0;have ev:=G 1;have eB:=G 2;have eE:=G 3;have eL:=G 4;have e0:=G 5;have e1:=G 6;obtain⟨ba,R⟩:∃ba,Bf F (w.heap.size+1) (.int .i64 0) (.int .i64 0) (.int .i64 0) (.int .i64 0) (.int .i64 0) (.slice none 0 0) (.string ⟨#[]⟩)=ba:=⟨_,rfl⟩;rw[R]at ar ay az a1 a6 a7 a8 ap;unfold Bf at R;have b1:Hid _:=R;clear R G;go_wp2;rw[b1.out];refine nG (v:=.tuple #[.agg #[.int .i64 0,.int .i64 0,.int .i64 0,.int .i64 0,.int .i64 0,.slice none 0 0,.string ⟨#[]⟩],.iface 78 (.int .i64 E)]) (by simp[results,results28,go_sem,ar,ay,az,a1,a6,a7,a8]) rfl ⟨by rw[←I.out];exact LW dr,ap.out⟩
theorem Yl{w:World}{b:Nat}{B:Bx}{x0:Nd}{ni:List Nd}(h:AX w b B)(bd:Bv B x0 ni){cop cA cB:Int}{cpath coth cname cdata:BA}(ch:Int)(cl:w.cell? ⟨0,0,none⟩=some (.int .i64 ch)){SS:Nat→Bool}:
 Calls prog 27 #[.pointer (some ⟨b,0,none⟩),.agg #[.int .i64 cop,.string cpath,.string coth,.string cname,.string cdata,.int .i64 cA,.int .i64 cB]] w fun e w'=>GQ w' SS (B.cor.staT cpath) e∧Bw w w':=by
 obtain⟨bo,J⟩:∃bo,Hid (B.cor.staT cpath=bo):=⟨_,rfl⟩;rw[J.out];unfold AO.staT at J;have bp:Bw w (w.alloc (Az cop cpath coth cname cdata cA cB)):=(nv _ _).alloc (nn _) _;have be:Bw w ((w.alloc (Az cop cpath coth cname cdata cA cB)).alloc C9):=bp.alloc bp.size _;have bs:=hid be;have bu:Hid (Dd ((w.alloc (Az cop cpath coth cname cdata cA cB)).alloc C9) (w.heap.size+1)):=Dd.new _ _ (by rw[nw]);obtain⟨d8,d9,ea,eb,ec,ed,ee⟩:=c7 w cop cpath coth cname cdata cA cB C9;have co:Hid (Calls prog 44 #[.pointer (some ⟨b,0,none⟩),.string cpath] ((w.alloc (Az cop cpath coth cname cdata cA cB)).alloc C9) fun e w'=>CL B w' cpath true (B.cor.atP true cpath) e∧Bw ((w.alloc (Az cop cpath coth cname cdata cA cB)).alloc C9) w'):=by
  refine np (JH (h.below be) bd.good cpath (Da _).1 (Da _).2 ch (Af be cl)) ?_;rintro e w' ⟨dk,dm⟩;exact⟨IW bd.good dk,dm⟩
 have cp:=hid h;have bf:=hid bd;clear h bd be bp cl;go_enter func27,ntmps27;go_upto_region 1 with fail
 generalize((w.alloc (Az cop cpath coth cname cdata cA cB)).alloc C9)=ef at*;go_wp2_with fail
 refine np co.out ?_;rintro e H ⟨dn,q2⟩;clear co;obtain⟨cs,E,rfl,bv,cr,cu,cx⟩:=dn;obtain⟨G,eg,V,bx,dp⟩:=F5 H cs bv cr;have dr:=BV cs;unfold Value.cells at dr;have ej:=hid bv;have c3:=hid (q2.trans (bx.out.mono q2.size));have bg:=hid (bs.out.trans (c3.out.mono bs.out.size));have c4:Hid _:=cu;have c5:Hid _:=cx;have ek:=hid (nP bs.out.size q2.size);clear cr cu bv cx;have ds:=hid (nH bu.out.lt q2.size);have a6:=hid (bu.out.below c3.out);clear bu;by_cases bA:E=0
 ·subst bA
  obtain⟨f,Y,c6,bi,bB,c8,bk,bC,c9⟩:=c4.out rfl;clear c4 c5;rw[c9]at J;have bl:=Fs c6;rw[←bi]at bl;rw[show Am 0=Value.nilIface from rfl];obtain⟨⟨bF,O,Q,R,el⟩,em,na,nc,nf,en,⟨T,eo,ep,eq,er,du,a1,xs⟩,da,ly⟩:=f;dsimp only at bi bB c8 bk bC bl;replace J:Hid ((0,⟨T,O,Q,R,if bF=true then((CS (AI B.xs (A4 cpath.data.toList))).length:Int)else(a1.size:Int),[],⟨#[]⟩⟩)=bo):=J.out;rw[←bi,bf.out.xs]at J;obtain⟨a7,db⟩:∃l,Hid ((CS (AI (x0::ni) nf)).length=l):=⟨_,rfl⟩;rw[db.out]at J;have es:Ce G H.heap.size 0 (.bool bF):=V.out 0 _ (by rw[Y];rfl);have bG:Ce G H.heap.size 1 (.int .i64 O):=V.out 1 _ (by rw[Y];rfl);have bH:Ce G H.heap.size 2 (.int .i64 Q):=V.out 2 _ (by rw[Y];rfl);have dw:Ce G H.heap.size 3 (.int .i64 R):=V.out 3 _ (by rw[Y];rfl);have dx:Ce G H.heap.size 10 (.slice na nf.length nc):=V.out 10 _ (by rw[Y];rfl);have dy:Ce G H.heap.size 12 (.int .i64 T):=V.out 12 _ (by rw[Y];rfl);have eu:Ce G H.heap.size 17 (.slice da.aa du.length da.ca):=V.out 17 _ (by rw[Y];rfl);have ev:Ce G H.heap.size 18 (.string a1):=V.out 18 _ (by rw[Y];rfl);have dz:=hid (bB.on (Aj bx.out));have d0:=hid bl.2.1;have eB:=hid (bk.nd.on (Aj bx.out));have eE:=hid (Kn bf.out bk (bC rfl));clear Y c6 bi bB c8 bk bC c9 bl dp V;cases bF with
  |false=>
   rw[nC (by decide)]at J;have Z:Hid (Bw w (Bf G (w.heap.size+1) (.int .i64 T) (.int .i64 O) (.int .i64 Q) (.int .i64 R) (.int .i64 (a1.size:Int)) (.slice none 0 0) (.string ⟨#[]⟩))):=EU (by omega) (bg.out);obtain⟨aa,ab,ad,ak,ao,ap,ar⟩:=(a6.out).store (.int .i64 T) (.int .i64 O) (.int .i64 Q) (.int .i64 R) (.int .i64 (a1.size:Int)) (.slice none 0 0) (.string ⟨#[]⟩);obtain⟨⟨t0,bY,b0,t3,t4,t5,b1⟩,F⟩:=id (a6.out);have b2:=F 0;have b3:=F 1;have b4:=F 2;have b5:=F 3;have b6:=F 4;have b7:=F 5;have b9:=F 6;obtain⟨ay,I⟩:∃ay,Bf G (w.heap.size+1) (.int .i64 T) (.int .i64 O) (.int .i64 Q) (.int .i64 R) (.int .i64 (a1.size:Int)) (.slice none 0 0) (.string ⟨#[]⟩)=ay:=⟨_,rfl⟩;rw[I]at aa ab ad ak ao ap ar Z;unfold Bf at I;have a8:Hid _:=I;clear I F;go_wp2;rw[a8.out];refine nG (v:=.tuple #[.agg #[.int .i64 T,.int .i64 O,.int .i64 Q,.int .i64 R,.int .i64 (a1.size:Int),.slice none 0 0,.string ⟨#[]⟩],.nilIface]) (by simp[results,results27,go_sem,aa,ab,ad,ak,ao,ap,ar]) rfl ⟨by rw[←J.out];exact⟨none,0,rfl,⟨nn _,by decide⟩,.inl rfl⟩,Z.out⟩
  |true=>
   rw[nD rfl]at J;have cb:=cp.out.below bg.out;have cd:=cb.lay;have cf:=cb.cells.2.2.1;rw[bf.out.xs]at cd cf;have bn:Ce G.drew b 2 (.slice B.la (ni.length+1) B.lc)∧Ce G.drew H.heap.size 10 (.slice na nf.length nc):=⟨cf,dx⟩;have d1:b<w.heap.size:=nz w ⟨b,2,none⟩ cp.out.cells.2.2.1;have d2:=ds.out;have d3:Hid (b≠w.heap.size+1):=by
    exact(by omega:b≠w.heap.size+1)
   have d4:Hid (H.heap.size≠w.heap.size+1):=by
    exact(by omega:H.heap.size≠w.heap.size+1)
   clear d1 d2;have dd:Hid (Calls prog 45 #[.slice B.la (ni.length+1) B.lc,.slice na nf.length nc] G.drew fun e w'=>(∃a cap,e=.returned (.slice a a7 cap))∧Bw G.drew w'):=by
    rw[←db.out];refine np (Nr (w:=G.drew) (S:=fun _=>false) (xs:=x0::ni) (a:=B.la) (cap:=B.lc) (an:=na) (nj:=nc) (nf:=nf) (fun _ d5=>(by cases d5)) (by rw[Dg];exact cd) (by rw[Dg];exact dz.out) (bf.out.sz.ok (by omega)) (by have:=d0.out;omega)) ?_;rintro e w' ⟨⟨d6,c1,bG,_⟩,bH⟩;exact⟨⟨d6,c1,bG⟩,bH⟩
   have de:=hid bg.out.drew;clear cd cf cb;go_upto_region 6 with fail
   go_region_held3 (fun w'=>Ce w' b 2 (.slice B.la (ni.length+1) B.lc)∧Ce w' H.heap.size 10 (.slice na nf.length nc)) (first|with_reducible exact bn|with_reducible exact dg) (first|(go_at_call 45;(with_reducible refine np dd.out ?_);rintro e az ⟨⟨la,eL,rfl⟩,ba⟩;have dg:Ce az b 2 (.slice B.la (ni.length+1) B.lc)∧Ce az H.heap.size 10 (.slice na nf.length nc):=⟨Af ba bn.1,Af ba bn.2⟩;have d7:Hid (Bw w az):=de.out.trans (ba.mono de.out.size);have bb:Hid (Bw G az):=(nv _ _).drew.trans ba;have cg:Hid (Dd az (w.heap.size+1)):=a6.out.below bb.out;obtain⟨⟨t0,bY,b0,t3,t4,t5,b1⟩,F⟩:=id cg.out;have b2:=F 0;have b3:=F 1;have b4:=F 2;have b5:=F 3;have b6:=F 4;have b7:=F 5;have b9:=F 6;clear F dd ba))
   all_goals
    have g1:=Af bb.out bG;have e0:=Af bb.out bH;have g3:=Af bb.out dw;have e1:=Af bb.out dy;clear bn dg d3 d4;have Z:Hid (Bw w (Bf az (w.heap.size+1) (.int .i64 T) (.int .i64 O) (.int .i64 Q) (.int .i64 R) (.int .i64 (a7:Int)) (.slice none 0 0) (.string ⟨#[]⟩))):=EU (by omega) (d7.out);obtain⟨aa,ab,ad,ak,ao,ap,ar⟩:=(cg.out).store (.int .i64 T) (.int .i64 O) (.int .i64 Q) (.int .i64 R) (.int .i64 (a7:Int)) (.slice none 0 0) (.string ⟨#[]⟩);obtain⟨⟨t0,bY,b0,t3,t4,t5,b1⟩,F⟩:=id (cg.out);have b2:=F 0;have b3:=F 1;have b4:=F 2;have b5:=F 3;have b6:=F 4;have b7:=F 5;have b9:=F 6;obtain⟨ay,I⟩:∃ay,Bf az (w.heap.size+1) (.int .i64 T) (.int .i64 O) (.int .i64 Q) (.int .i64 R) (.int .i64 (a7:Int)) (.slice none 0 0) (.string ⟨#[]⟩)=ay:=⟨_,rfl⟩;rw[I]at aa ab ad ak ao ap ar Z;unfold Bf at I;have a8:Hid _:=I;clear I F;go_wp2;rw[a8.out];refine nG (v:=.tuple #[.agg #[.int .i64 T,.int .i64 O,.int .i64 Q,.int .i64 R,.int .i64 (a7:Int),.slice none 0 0,.string ⟨#[]⟩],.nilIface]) (by simp[results,results27,go_sem,aa,ab,ad,ak,ao,ap,ar]) rfl ⟨by rw[←J.out];exact⟨none,0,rfl,⟨nn _,by decide⟩,.inl rfl⟩,Z.out⟩
 ·have dj:=AG (n:=E) rfl bA
  rw[c5.out bA]at J;rw[dj];have Z:Hid (Bw w (Bf G (w.heap.size+1) (.int .i64 0) (.int .i64 0) (.int .i64 0) (.int .i64 0) (.int .i64 0) (.slice none 0 0) (.string ⟨#[]⟩))):=EU (by omega) (bg.out);obtain⟨aa,ab,ad,ak,ao,ap,ar⟩:=(a6.out).store (.int .i64 0) (.int .i64 0) (.int .i64 0) (.int .i64 0) (.int .i64 0) (.slice none 0 0) (.string ⟨#[]⟩);obtain⟨⟨t0,bY,b0,t3,t4,t5,b1⟩,F⟩:=id (a6.out);have b2:=F 0;have b3:=F 1;have b4:=F 2;have b5:=F 3;have b6:=F 4;have b7:=F 5;have b9:=F 6;obtain⟨ay,I⟩:∃ay,Bf G (w.heap.size+1) (.int .i64 0) (.int .i64 0) (.int .i64 0) (.int .i64 0) (.int .i64 0) (.slice none 0 0) (.string ⟨#[]⟩)=ay:=⟨_,rfl⟩;rw[I]at aa ab ad ak ao ap ar Z;unfold Bf at I;have a8:Hid _:=I;clear I F;go_wp2;rw[a8.out];refine nG (v:=.tuple #[.agg #[.int .i64 0,.int .i64 0,.int .i64 0,.int .i64 0,.int .i64 0,.slice none 0 0,.string ⟨#[]⟩],.iface 78 (.int .i64 E)]) (by simp[results,results27,go_sem,aa,ab,ad,ak,ao,ap,ar]) rfl ⟨by rw[←J.out];exact LW dj,Z.out⟩
theorem Zt{w:World}{b:Nat}{B:Bx}{x0:Nd}{ni:List Nd}(h:AX w b B)(bd:Bv B x0 ni){cop cA cB:Int}{cpath coth cname cdata:BA}(bB:Int)(bC:w.cell? ⟨0,0,none⟩=some (.int .i64 bB))(bF:cname.size≤1000){SS:Nat→Bool}:
 Calls prog 30 #[.pointer (some ⟨b,0,none⟩),.agg #[.int .i64 cop,.string cpath,.string coth,.string cname,.string cdata,.int .i64 cA,.int .i64 cB]] w fun e w'=>GQ w' SS (B.cor.getT cop cpath cname cdata) e∧Bw w w':=by
 obtain⟨be,I⟩:∃be,Hid (B.cor.getT cop cpath cname cdata=be):=⟨_,rfl⟩;rw[I.out];unfold AO.getT at I;have bf:Bw w (w.alloc (Az cop cpath coth cname cdata cA cB)):=(nv _ _).alloc (nn _) _;have ay:Bw w ((w.alloc (Az cop cpath coth cname cdata cA cB)).alloc C9):=bf.alloc bf.size _;have bg:=hid ay;have bi:Hid (Dd ((w.alloc (Az cop cpath coth cname cdata cA cB)).alloc C9) (w.heap.size+1)):=Dd.new _ _ (by rw[nw]);obtain⟨dm,dn,dp,c4,dr,ds,du⟩:=c7 w cop cpath coth cname cdata cA cB C9;have bG:Hid (Calls prog 47 #[.pointer (some ⟨b,0,none⟩),PB cop cpath coth cname cdata cA cB,.int .i64 4] ((w.alloc (Az cop cpath coth cname cdata cA cB)).alloc C9) fun e w'=>CL B w' cpath true (B.cor.deP cop cpath cname cdata 4) e∧Bw ((w.alloc (Az cop cpath coth cname cdata cA cB)).alloc C9) w'):=PQ (h.below ay) bd 4 bB (Af ay bC) bF;have dw:=hid h;have c5:=hid bd;clear h bd ay bf bC;go_enter func30,ntmps30;go_upto_region 1 with fail
 generalize((w.alloc (Az cop cpath coth cname cdata cA cB)).alloc C9)=dx at*;go_wp2_with fail
 refine np bG.out ?_;rintro e J ⟨c6,q2⟩;clear bG;obtain⟨cs,E,rfl,bk,bH,bY,b0⟩:=c6;obtain⟨H,dy,O,bl,c8⟩:=F5 J cs bk bH;have c9:=BV cs;unfold Value.cells at c9;have dz:=hid bk;have bn:=hid (q2.trans (bl.out.mono q2.size));have bo:=hid (bg.out.trans (bn.out.mono bg.out.size));have b1:Hid _:=bY;have b2:Hid _:=b0;have d0:=hid (nP bg.out.size q2.size);clear bH bY bk b0;have d1:=hid (nH bi.out.lt q2.size);have bp:=hid (bi.out.below bn.out);clear bi;by_cases bs:E=0
 ·subst bs
  obtain⟨f,Q,b3,bu,bv,b4,az,bx,b5⟩:=b1.out rfl;clear b1 b2;rw[b5]at I;have a1:=Fs b3;rw[←bu]at a1;rw[show Am 0=Value.nilIface from rfl];obtain⟨⟨da,db,dd,de,d2⟩,d3,na,nc,nf,d4,⟨dg,d5,d6,d7,d8,T,dj,xs⟩,a6,ly⟩:=f;dsimp only at bu bv b4 az bx a1;replace I:Hid ((FU T cname,⟨0,0,0,0,0,[],Gp T cname⟩)=be):=I.out;have d9:Ce H J.heap.size 0 (.bool da):=O.out 0 _ (by rw[Q];rfl);have ea:Ce H J.heap.size 1 (.int .i64 db):=O.out 1 _ (by rw[Q];rfl);have eb:Ce H J.heap.size 2 (.int .i64 dd):=O.out 2 _ (by rw[Q];rfl);have ec:Ce H J.heap.size 3 (.int .i64 de):=O.out 3 _ (by rw[Q];rfl);have ed:Ce H J.heap.size 10 (.slice na nf.length nc):=O.out 10 _ (by rw[Q];rfl);have ee:Ce H J.heap.size 12 (.int .i64 dg):=O.out 12 _ (by rw[Q];rfl);have ef:Ce H J.heap.size 17 (.slice a6.aa T.length a6.ca):=O.out 17 _ (by rw[Q];rfl);have eg:Ce H J.heap.size 18 (.string dj):=O.out 18 _ (by rw[Q];rfl);have ej:=hid (bv.on (Aj bl.out));have ek:=hid a1.2.1;have dk:=hid (az.nd.on (Aj bl.out));have b6:=hid (Kn c5.out az (bx rfl));clear Q b3 bu bv b4 az bx b5 a1 c8 O;have g3:=Af bn.out c4;have a7:Hid (Calls prog 48 #[.slice a6.aa T.length a6.ca,.string cname] H fun e w'=>e=.returned (.tuple #[.string (Gp T cname),Am (FU T cname)])∧Bw H w'):=bW _ _ _ _ _ (by have:=b6.out.1;omega) b6.out.2 bF (Cq.1 dk.out).1;generalize Gp T cname=R at a7 I;generalize FU T cname=a8 at a7 I;go_wp2_with fail
  refine np a7.out ?_;rintro e ba ⟨rfl,bA⟩;have b7:=hid (bo.out.trans (bA.mono bo.out.size));have bb:=hid (bp.out.below bA);clear a7 bA;by_cases b9:a8=0
  ·subst b9
   rw[show Am 0=Value.nilIface from rfl];have V:Hid (Bw w (Bf ba (w.heap.size+1) (.int .i64 0) (.int .i64 0) (.int .i64 0) (.int .i64 0) (.int .i64 0) (.slice none 0 0) (.string R))):=EU (by omega) (b7.out);obtain⟨Y,Z,aa,ab,ad,ak,ao⟩:=(bb.out).store (.int .i64 0) (.int .i64 0) (.int .i64 0) (.int .i64 0) (.int .i64 0) (.slice none 0 0) (.string R);obtain⟨⟨t0,cb,cd,t3,t4,t5,cf⟩,F⟩:=id (bb.out);have cg:=F 0;have ch:=F 1;have cl:=F 2;have co:=F 3;have cp:=F 4;have cr:=F 5;have cu:=F 6;obtain⟨ap,G⟩:∃ap,Bf ba (w.heap.size+1) (.int .i64 0) (.int .i64 0) (.int .i64 0) (.int .i64 0) (.int .i64 0) (.slice none 0 0) (.string R)=ap:=⟨_,rfl⟩;rw[G]at Y Z aa ab ad ak ao V;unfold Bf at G;have ar:Hid _:=G;clear G F;go_wp2;rw[ar.out];refine nG (v:=.tuple #[.agg #[.int .i64 0,.int .i64 0,.int .i64 0,.int .i64 0,.int .i64 0,.slice none 0 0,.string R],.nilIface]) (by simp[results,results30,go_sem,Y,Z,aa,ab,ad,ak,ao]) rfl ⟨by rw[←I.out];exact⟨none,0,rfl,⟨nn _,by decide⟩,.inl rfl⟩,V.out⟩
  ·have cx:=AG (n:=a8) rfl b9
   rw[cx];have V:Hid (Bw w (Bf ba (w.heap.size+1) (.int .i64 0) (.int .i64 0) (.int .i64 0) (.int .i64 0) (.int .i64 0) (.slice none 0 0) (.string R))):=EU (by omega) (b7.out);obtain⟨Y,Z,aa,ab,ad,ak,ao⟩:=(bb.out).store (.int .i64 0) (.int .i64 0) (.int .i64 0) (.int .i64 0) (.int .i64 0) (.slice none 0 0) (.string R);obtain⟨⟨t0,cb,cd,t3,t4,t5,cf⟩,F⟩:=id (bb.out);have cg:=F 0;have ch:=F 1;have cl:=F 2;have co:=F 3;have cp:=F 4;have cr:=F 5;have cu:=F 6;obtain⟨ap,G⟩:∃ap,Bf ba (w.heap.size+1) (.int .i64 0) (.int .i64 0) (.int .i64 0) (.int .i64 0) (.int .i64 0) (.slice none 0 0) (.string R)=ap:=⟨_,rfl⟩;rw[G]at Y Z aa ab ad ak ao V;unfold Bf at G;have ar:Hid _:=G;clear G F;go_wp2;rw[ar.out];refine nG (v:=.tuple #[.agg #[.int .i64 0,.int .i64 0,.int .i64 0,.int .i64 0,.int .i64 0,.slice none 0 0,.string R],.iface 78 (.int .i64 a8)]) (by simp[results,results30,go_sem,Y,Z,aa,ab,ad,ak,ao]) rfl ⟨by rw[←I.out];exact⟨none,0,(by show _=Ending.returned (.tuple #[.agg #[.int .i64 0,.int .i64 0,.int .i64 0,.int .i64 0,.int .i64 0,.slice none 0 0,.string R],Am a8]);rw[cx]),⟨nn _,by decide⟩,.inl rfl⟩,V.out⟩
 ·have c3:=AG (n:=E) rfl bs
  rw[b2.out bs]at I;rw[c3];have V:Hid (Bw w (Bf H (w.heap.size+1) (.int .i64 0) (.int .i64 0) (.int .i64 0) (.int .i64 0) (.int .i64 0) (.slice none 0 0) (.string ⟨#[]⟩))):=EU (by omega) (bo.out);obtain⟨Y,Z,aa,ab,ad,ak,ao⟩:=(bp.out).store (.int .i64 0) (.int .i64 0) (.int .i64 0) (.int .i64 0) (.int .i64 0) (.slice none 0 0) (.string ⟨#[]⟩);obtain⟨⟨t0,cb,cd,t3,t4,t5,cf⟩,F⟩:=id (bp.out);have cg:=F 0;have ch:=F 1;have cl:=F 2;have co:=F 3;have cp:=F 4;have cr:=F 5;have cu:=F 6;obtain⟨ap,G⟩:∃ap,Bf H (w.heap.size+1) (.int .i64 0) (.int .i64 0) (.int .i64 0) (.int .i64 0) (.int .i64 0) (.slice none 0 0) (.string ⟨#[]⟩)=ap:=⟨_,rfl⟩;rw[G]at Y Z aa ab ad ak ao V;unfold Bf at G;have ar:Hid _:=G;clear G F;go_wp2;rw[ar.out];refine nG (v:=.tuple #[.agg #[.int .i64 0,.int .i64 0,.int .i64 0,.int .i64 0,.int .i64 0,.slice none 0 0,.string ⟨#[]⟩],.iface 78 (.int .i64 E)]) (by simp[results,results30,go_sem,Y,Z,aa,ab,ad,ak,ao]) rfl ⟨by rw[←I.out];exact LW c3,V.out⟩
end Go.Proofs.YtofhphibahcniaaGreatDoor
namespace Go.Proofs.YtofhphibahcniaaGreatDoor
open Go.RowKit Go.Sort Go.Shelf Go.Proofs.Tryz
theorem FK(F:World)(X:Obj)(us:Array Value)(t:TypeId)(i:Nat)(u:Value)(h:us[i]? =some u):((F.alloc X).alloc (.cells us t)).cell? (aD (F.heap.size+1) i)=some u:=by
 have e:((F.alloc X).alloc (.cells us t)).cell? (aD ((F.alloc X).heap.size) i)=us[i]?:=aC;rw[nw]at e;rw[e,h]
def Eu(w w':World)(e:Ending)(L:List Kv)(f:Int):Prop:=
 (∃G F,e=.returned (.tuple #[.slice G L.length F,Am f])∧L.length≤F∧F≤9223372036854775807∧Bp w'.cell? G L)∧Below w.heap.size w w'
theorem Eu.bad{w w':World}{L:List Kv}{f n:Int}(F:f=n)(G:n≠0)(H:L=[])(I:Below w.heap.size w w'):Eu w w' (.returned (.tuple #[.slice none 0 0,.iface 78 (iN n)])) L f:=by
 subst H F;exact⟨⟨none,0,by rw[AG rfl G];rfl,by simp,by simp,.inl rfl⟩,I⟩
theorem Eu.good{w w':World}{L M:List Kv}{f:Int}{G:Option Addr}{F:Nat}(H:f=0)(I:M=L)(J:L.length≤F)(O:F≤9223372036854775807)(Q:Bp w'.cell? G L)(R:Below w.heap.size w w'):Eu w w' (.returned (.tuple #[.slice G L.length F,.nilIface])) M f:=by
 subst I H;exact⟨⟨G,F,rfl,J,O,Q⟩,R⟩
theorem aX(a:Option Addr)(cap:Nat)(l:List Kv)(m v:BA)(w:World)(aa:l.length≤1000)(b0:l.length≤cap)(b1:cap≤9223372036854775807)(ab:EP l)(ad:m.size≤1000)(h:Bp w.cell? a l):
 Calls prog 57 #[.slice a l.length cap,.string m,.string v] w fun e w'=>Eu w w' e (Gq l m v) (FP l m v):=by
 obtain⟨P,bf⟩:=AQ (Ff l m);obtain⟨b2,bb⟩:=AQ (DA l m);obtain⟨bv,bg⟩:=AQ (Gq l m v);obtain⟨ap,ak⟩:=AQ (FP l m v);rw[bg.out,ak.out];have bd:Hid (ap≠0→bv=[]):=fun bi=>by rw[←bg.out];unfold Gq;rw[nD (by rw[ak.out];exact bi)]
 have a7:Hid (ap=0→bv=Dk l m v):=fun bi=>by rw[←bg.out];unfold Gq;rw[nC (by rw[ak.out];simpa using bi)]
 by_cases a6:C5 l m=0;rotate_left
 ·have I:Hid (C5 l m≠0):=a6
  have H:Hid (ap=C5 l m):=by show _=_;rw[←ak.out];unfold FP;rw[nD I.out]
  clear a6;go_enter func57,ntmps57;go_wp2_with fail
  refine(E9 a cap l m _ aa ab ad h).mono ?_;rintro e F ⟨rfl,G⟩;rw[bf.out,bb.out,AG rfl I.out];go_wp2;go_ret2;exact Eu.bad H.out I.out (bd.out (by rw[H.out];exact I.out)) G
 have I:=hid a6;have bk:Ef l:=(Js.1 a6).1.2.2;have b3:l.length≤4:=(Js.1 a6).1.1;clear a6;by_cases be:20<v.size
 ·have H:Hid (ap=1):=by show _=_;rw[←ak.out];unfold FP;rw[nC (by simpa using I.out),nD be]
  have bB:decide (20<(v.size:Int))=true:=nF (by omega);go_enter func57,ntmps57;go_wp2_with fail
  refine(E9 a cap l m _ aa ab ad h).mono ?_;rintro e F ⟨rfl,G⟩;rw[bf.out,bb.out,Co I.out];go_wp2;go_ret2;exact Eu.bad H.out (by decide) (bd.out (by rw[H.out];decide)) G
 have bB:=nB (by omega);have ao:Hid (Ff l m=plc l m):=by show _=_;unfold Ff;rw[nD I.out]
 have V:=hid (NU m bk);have bx:=Vr l m;clear bf;cases hfd:C7 l m with
 |none=>
  have ar:Hid (DA l m=false):=by show _=_;unfold DA;rw[hfd];simp
  have T:=hid ((PZ m bk hfd).1);generalize plc l m=p at ao V bx T;have bC:(0:Int)≤(p:Int):=by omega
  have bF:(p:Int)≤(l.length:Int):=by omega
  have bG:(p:Int)≤(cap:Int):=by omega
  clear bb;by_cases a8:l.length=4
  ·have H:Hid (ap=2):=by show _=_;rw[←ak.out];unfold FP;rw[nC (by simpa using I.out),nC be,nD ⟨hfd,a8⟩]
   have bH:((l.length:Int)==4)=true:=by rw[a8];rfl
   clear hfd T V a7 a8;by_cases ba:cap=p
   ·subst ba
    go_enter func57,ntmps57;go_wp2_with fail
    refine(E9 a cap l m _ aa ab ad h).mono ?_;rintro e F ⟨rfl,G⟩;rw[ao.out,ar.out,Co I.out];go_wp2;go_ret2;exact Eu.bad H.out (by decide) (bd.out (by rw[H.out];decide)) G
   ·go_enter func57,ntmps57
    go_wp2_with fail
    refine(E9 a cap l m _ aa ab ad h).mono ?_;rintro e F ⟨rfl,G⟩;rw[ao.out,ar.out,Co I.out];go_wp2;go_ret2;exact Eu.bad H.out (by decide) (bd.out (by rw[H.out];decide)) G
  ·have H:Hid (ap=0):=by show _=_;rw[←ak.out];unfold FP;rw[nC (by simpa using I.out),nC be,nC (fun e=>a8 e.2)]
   have bH:((l.length:Int)==4)=false:=by simp;omega
   clear hfd a8;by_cases ba:cap=p
   ·subst ba
    have bl:Hid (EI l m=[]):=by show _=_;rw[←T.out];exact n7 (by omega)
    have ay:(Dk l m v).length≤1000:=by
     unfold Dk;have:=nW List.length V.out;have:=nW List.length T.out;simp at*;omega
    go_enter func57,ntmps57;go_wp2_with fail
    refine(E9 a cap l m _ aa ab ad h).mono ?_;rintro e F ⟨rfl,G⟩;rw[ao.out,ar.out,Co I.out];have Q:=h.below G;go_wp2_with fail
    have J:Below w.heap.size w ((F.alloc (.cells #[.string m,.string v] 122)).alloc (.cells #[.slice a cap cap,sL F.heap.size 0 1 1,.slice a 0 0] 51)):=(G.alloc G.size _).alloc (by have:=G.size;simp;omega) _;have R:Below F.heap.size F ((F.alloc (.cells #[.string m,.string v] 122)).alloc (.cells #[.slice a cap cap,sL F.heap.size 0 1 1,.slice a 0 0] 51)):=bN.alloc (by simp) _;have Y:Fb ((F.alloc (.cells #[.string m,.string v] 122)).alloc (.cells #[.slice a cap cap,sL F.heap.size 0 1 1,.slice a 0 0] 51)) F.heap.size ⟨m,v⟩:=by
     have k:=Fb.new F ⟨m,v⟩;have hb:=(nv _ (F.alloc (.cells #[.string m,.string v] 122))).alloc (nn _) (.cells #[.slice a cap cap,sL F.heap.size 0 1 1,.slice a 0 0] 51);exact⟨(hb.cell (p:=(aD F.heap.size 0)) (by simp)).trans k.1,(hb.cell (p:=(aD F.heap.size 1)) (by simp)).trans k.2⟩
    refine(LH _ ⟨a,cap,l.take cap⟩ ⟨some (aD F.heap.size 0),1,[⟨m,v⟩]⟩ ⟨a,0,[]⟩ (Dk l m v) _ ?_ ay ?_ ?_ ?_ ?_ ?_ ?_).mono ?_
    ·show Dk l m v=l.take cap++([⟨m,v⟩]++[])
     rw[V.out];unfold Dk;rw[bl.out];rfl
    ·rw[show(l.take cap).length=cap by simp;omega];exact FK _ _ _ _ _ _ rfl
    ·exact FK _ _ _ _ _ _ rfl
    ·exact FK _ _ _ _ _ _ rfl
    ·exact(Q.below R).take cap
    ·refine .inr ⟨F.heap.size,0,rfl,fun k x O=>?_⟩
     match k with
     |0=>simp at O;subst O;exact Y
     |j+1=>simp at O
    ·exact Or.inl rfl
    rintro e bn ⟨⟨bo,bp,rfl,g1,az,g3⟩,Z⟩;have a1:=J.trans (Z.mono J.size);clear J R Z Y G Q;go_wp2;go_ret2;exact Eu.good H.out (a7.out H.out) g1 az g3 a1
   ·have bs:Hid (∀W:World,Bp W.cell? a l→Bp W.cell? (a.map (·.add (p*2))) (l.drop p)):=fun W bu=>bu.drop p
    have ay:(Dk l m v).length≤1000:=by
     unfold Dk;have:=nW List.length V.out;have:=nW List.length T.out;simp at*;omega
    go_enter func57,ntmps57;go_wp2_with fail
    refine(E9 a cap l m _ aa ab ad h).mono ?_;rintro e F ⟨rfl,G⟩;rw[ao.out,ar.out,Co I.out];have Q:=h.below G;go_wp2_with fail
    have J:Below w.heap.size w ((F.alloc (.cells #[.string m,.string v] 122)).alloc (.cells #[.slice a p cap,sL F.heap.size 0 1 1,.slice (a.map (·.add (p*2))) (l.length-p) (cap-p)] 51)):=(G.alloc G.size _).alloc (by have:=G.size;simp;omega) _;have R:Below F.heap.size F ((F.alloc (.cells #[.string m,.string v] 122)).alloc (.cells #[.slice a p cap,sL F.heap.size 0 1 1,.slice (a.map (·.add (p*2))) (l.length-p) (cap-p)] 51)):=bN.alloc (by simp) _;have Y:Fb ((F.alloc (.cells #[.string m,.string v] 122)).alloc (.cells #[.slice a p cap,sL F.heap.size 0 1 1,.slice (a.map (·.add (p*2))) (l.length-p) (cap-p)] 51)) F.heap.size ⟨m,v⟩:=by
     have k:=Fb.new F ⟨m,v⟩;have hb:=(nv _ (F.alloc (.cells #[.string m,.string v] 122))).alloc (nn _) (.cells #[.slice a p cap,sL F.heap.size 0 1 1,.slice (a.map (·.add (p*2))) (l.length-p) (cap-p)] 51);exact⟨(hb.cell (p:=(aD F.heap.size 0)) (by simp)).trans k.1,(hb.cell (p:=(aD F.heap.size 1)) (by simp)).trans k.2⟩
    refine(LH _ ⟨a,cap,l.take p⟩ ⟨some (aD F.heap.size 0),1,[⟨m,v⟩]⟩ ⟨a.map (·.add (p*2)),cap-p,l.drop p⟩ (Dk l m v) _ ?_ ay ?_ ?_ ?_ ?_ ?_ ?_).mono ?_
    ·show Dk l m v=l.take p++([⟨m,v⟩]++l.drop p)
     rw[V.out,T.out];rfl
    ·rw[show(l.take p).length=p by simp;omega];exact FK _ _ _ _ _ _ rfl
    ·exact FK _ _ _ _ _ _ rfl
    ·rw[show(l.drop p).length=l.length-p by simp];exact FK _ _ _ _ _ _ rfl
    ·exact(Q.below R).take p
    ·refine .inr ⟨F.heap.size,0,rfl,fun k x O=>?_⟩
     match k with
     |0=>simp at O;subst O;exact Y
     |j+1=>simp at O
    ·exact bs.out _ (Q.below R)
    rintro e bn ⟨⟨bo,bp,rfl,g1,az,g3⟩,Z⟩;have a1:=J.trans (Z.mono J.size);clear J R Z Y G Q;go_wp2;go_ret2;exact Eu.good H.out (a7.out H.out) g1 az g3 a1
 |some x=>
  have ar:Hid (DA l m=true):=by show _=_;unfold DA;rw[hfd,nF I.out];rfl
  obtain⟨hx,bA⟩:=Mh m bk hfd;have T:=hid bA;have bY:=(ny.1 hx).1;have H:Hid (ap=0):=by show _=_;rw[←ak.out];unfold FP;rw[nC (by simpa using I.out),nC be,nC (fun e=>by rw[hfd]at e;cases e.1)]
  clear bA hx;generalize plc l m=p at ao V bx T bY;have bC:(0:Int)≤(p:Int):=by omega
  have bF:(p:Int)≤(l.length:Int):=by omega
  have bG:(p:Int)≤(cap:Int):=by omega
  have b4:(p:Int)+1≤(l.length:Int):=by omega
  have b5:¬cap=p:=by omega
  clear bb hfd;by_cases ba:cap=p+1
  ·subst ba
   have bl:Hid (EI l m=[]):=by show _=_;rw[←T.out];exact n7 (by omega)
   have ay:(Dk l m v).length≤1000:=by
    unfold Dk;have:=nW List.length V.out;have:=nW List.length T.out;simp at*;omega
   go_enter func57,ntmps57;go_wp2_with fail
   refine(E9 a (p+1) l m _ aa ab ad h).mono ?_;rintro e F ⟨rfl,G⟩;rw[ao.out,ar.out,Co I.out];have Q:=h.below G;go_wp2_with fail
   have J:Below w.heap.size w ((F.alloc (.cells #[.string m,.string v] 122)).alloc (.cells #[.slice a p (p+1),sL F.heap.size 0 1 1,.slice a 0 0] 51)):=(G.alloc G.size _).alloc (by have:=G.size;simp;omega) _;have R:Below F.heap.size F ((F.alloc (.cells #[.string m,.string v] 122)).alloc (.cells #[.slice a p (p+1),sL F.heap.size 0 1 1,.slice a 0 0] 51)):=bN.alloc (by simp) _;have Y:Fb ((F.alloc (.cells #[.string m,.string v] 122)).alloc (.cells #[.slice a p (p+1),sL F.heap.size 0 1 1,.slice a 0 0] 51)) F.heap.size ⟨m,v⟩:=by
    have k:=Fb.new F ⟨m,v⟩;have hb:=(nv _ (F.alloc (.cells #[.string m,.string v] 122))).alloc (nn _) (.cells #[.slice a p (p+1),sL F.heap.size 0 1 1,.slice a 0 0] 51);exact⟨(hb.cell (p:=(aD F.heap.size 0)) (by simp)).trans k.1,(hb.cell (p:=(aD F.heap.size 1)) (by simp)).trans k.2⟩
   refine(LH _ ⟨a,(p+1),l.take p⟩ ⟨some (aD F.heap.size 0),1,[⟨m,v⟩]⟩ ⟨a,0,[]⟩ (Dk l m v) _ ?_ ay ?_ ?_ ?_ ?_ ?_ ?_).mono ?_
   ·show Dk l m v=l.take p++([⟨m,v⟩]++[])
    rw[V.out];unfold Dk;rw[bl.out];rfl
   ·rw[show(l.take p).length=p by simp;omega];exact FK _ _ _ _ _ _ rfl
   ·exact FK _ _ _ _ _ _ rfl
   ·exact FK _ _ _ _ _ _ rfl
   ·exact(Q.below R).take p
   ·refine .inr ⟨F.heap.size,0,rfl,fun k x O=>?_⟩
    match k with
    |0=>simp at O;subst O;exact Y
    |j+1=>simp at O
   ·exact Or.inl rfl
   rintro e bn ⟨⟨bo,bp,rfl,g1,az,g3⟩,Z⟩;have a1:=J.trans (Z.mono J.size);clear J R Z Y G Q;go_wp2;go_ret2;exact Eu.good H.out (a7.out H.out) g1 az g3 a1
  ·have bs:Hid (∀W:World,Bp W.cell? a l→Bp W.cell? (a.map (·.add ((p+1)*2))) (l.drop (p+1))):=fun W bu=>bu.drop (p+1)
   have ay:(Dk l m v).length≤1000:=by
    unfold Dk;have:=nW List.length V.out;have:=nW List.length T.out;simp at*;omega
   go_enter func57,ntmps57;go_wp2_with fail
   refine(E9 a cap l m _ aa ab ad h).mono ?_;rintro e F ⟨rfl,G⟩;rw[ao.out,ar.out,Co I.out];have Q:=h.below G;go_wp2_with fail
   have J:Below w.heap.size w ((F.alloc (.cells #[.string m,.string v] 122)).alloc (.cells #[.slice a p cap,sL F.heap.size 0 1 1,.slice (a.map (·.add ((p+1)*2))) (l.length-(p+1)) (cap-(p+1))] 51)):=(G.alloc G.size _).alloc (by have:=G.size;simp;omega) _;have R:Below F.heap.size F ((F.alloc (.cells #[.string m,.string v] 122)).alloc (.cells #[.slice a p cap,sL F.heap.size 0 1 1,.slice (a.map (·.add ((p+1)*2))) (l.length-(p+1)) (cap-(p+1))] 51)):=bN.alloc (by simp) _;have Y:Fb ((F.alloc (.cells #[.string m,.string v] 122)).alloc (.cells #[.slice a p cap,sL F.heap.size 0 1 1,.slice (a.map (·.add ((p+1)*2))) (l.length-(p+1)) (cap-(p+1))] 51)) F.heap.size ⟨m,v⟩:=by
    have k:=Fb.new F ⟨m,v⟩;have hb:=(nv _ (F.alloc (.cells #[.string m,.string v] 122))).alloc (nn _) (.cells #[.slice a p cap,sL F.heap.size 0 1 1,.slice (a.map (·.add ((p+1)*2))) (l.length-(p+1)) (cap-(p+1))] 51);exact⟨(hb.cell (p:=(aD F.heap.size 0)) (by simp)).trans k.1,(hb.cell (p:=(aD F.heap.size 1)) (by simp)).trans k.2⟩
   refine(LH _ ⟨a,cap,l.take p⟩ ⟨some (aD F.heap.size 0),1,[⟨m,v⟩]⟩ ⟨a.map (·.add ((p+1)*2)),cap-(p+1),l.drop (p+1)⟩ (Dk l m v) _ ?_ ay ?_ ?_ ?_ ?_ ?_ ?_).mono ?_
   ·show Dk l m v=l.take p++([⟨m,v⟩]++l.drop (p+1))
    rw[V.out,T.out];rfl
   ·rw[show(l.take p).length=p by simp;omega];exact FK _ _ _ _ _ _ rfl
   ·exact FK _ _ _ _ _ _ rfl
   ·rw[show(l.drop (p+1)).length=l.length-(p+1) by simp];exact FK _ _ _ _ _ _ rfl
   ·exact(Q.below R).take p
   ·refine .inr ⟨F.heap.size,0,rfl,fun k x O=>?_⟩
    match k with
    |0=>simp at O;subst O;exact Y
    |j+1=>simp at O
   ·exact bs.out _ (Q.below R)
   rintro e bn ⟨⟨bo,bp,rfl,g1,az,g3⟩,Z⟩;have a1:=J.trans (Z.mono J.size);clear J R Z Y G Q;go_wp2;go_ret2;exact Eu.good H.out (a7.out H.out) g1 az g3 a1
theorem YZ(a:Option Addr)(cap:Nat)(l:List Kv)(m:BA)(w:World)(ad:l.length≤1000)(bv:l.length≤cap)(bx:cap≤9223372036854775807)(ak:EP l)(ao:m.size≤1000)(h:Bp w.cell? a l):
 Calls prog 59 #[.slice a l.length cap,.string m] w fun e w'=>Eu w w' e (Gu l m) (GR l m):=by
 obtain⟨P,a7⟩:=AQ (Ff l m);obtain⟨bA,ap⟩:=AQ (DA l m);obtain⟨a8,ar⟩:=AQ (Gu l m);obtain⟨O,J⟩:=AQ (GR l m);rw[ar.out,J.out];have ba:Hid (O≠0→a8=[]):=fun ay=>by rw[←ar.out];unfold Gu;rw[nD (by rw[J.out];exact ay)]
 have bb:Hid (O=0→a8=EN l m):=fun ay=>by rw[←ar.out];unfold Gu;rw[nC (by rw[J.out];simpa using ay)]
 by_cases Q:C5 l m=0;rotate_left
 ·have F:Hid (C5 l m≠0):=Q
  have G:Hid (O=C5 l m):=by show _=_;rw[←J.out];unfold GR;rw[nD F.out]
  clear Q;go_enter func59,ntmps59;go_wp2_with fail
  refine(E9 a cap l m _ ad ak ao h).mono ?_;rintro e I ⟨rfl,H⟩;rw[a7.out,ap.out,AG rfl F.out];go_wp2;go_ret2;exact Eu.bad G.out F.out (ba.out (by rw[G.out];exact F.out)) H
 have F:=hid Q;have bd:Ef l:=(Js.1 Q).1.2.2;clear Q;have Z:Hid (Ff l m=plc l m):=by show _=_;unfold Ff;rw[nD F.out]
 have R:=hid (NU m bd);clear a7;cases hfd:C7 l m with
 |none=>
  have az:Hid (DA l m=false):=by show _=_;unfold DA;rw[hfd];simp
  have G:Hid (O=5):=by show _=_;rw[←J.out];unfold GR;rw[nC (by simpa using F.out),nD hfd]
  clear ap hfd R bb;generalize plc l m=p at Z;go_enter func59,ntmps59;go_wp2_with fail
  refine(E9 a cap l m _ ad ak ao h).mono ?_;rintro e I ⟨rfl,H⟩;rw[Z.out,az.out,Co F.out];go_wp2;go_ret2;exact Eu.bad G.out (by decide) (ba.out (by rw[G.out];decide)) H
 |some x=>
  have az:Hid (DA l m=true):=by show _=_;unfold DA;rw[hfd,nF F.out];rfl
  obtain⟨hx,be⟩:=Mh m bd hfd;have aa:=hid be;have bk:=(ny.1 hx).1;have G:Hid (O=0):=by show _=_;rw[←J.out];unfold GR;rw[nC (by simpa using F.out),nC (by rw[hfd];simp)]
  clear be hx;generalize plc l m=p at Z R aa bk;have bB:(0:Int)≤(p:Int):=by omega
  have bC:(p:Int)≤(l.length:Int):=by omega
  have bF:(p:Int)≤(cap:Int):=by omega
  have bG:(p:Int)+1≤(l.length:Int):=by omega
  have bH:(0:Int)≤(p:Int)+1:=by omega
  have bY:IntKind.i64.wrap ((p:Int)+1)=(p:Int)+1:=EG (by omega) (by omega);have bl:Hid ((EN l m).length≤1000):=by
   show _≤_;unfold EN;have:=nW List.length R.out;have:=nW List.length aa.out;simp at*;omega
  have bf:(l.take p).length=p:=by simp;omega
  clear ap hfd;have bg:Hid (∀(W:World) (T:Nat),Bp W.cell? a l→Ce W T 0 (.slice a p cap)→Ce W T 1 (.slice (if cap=p+1 then a else a.map (·.add ((p+1)*2))) (l.length-(p+1)) (cap-(p+1)))→cL 106 #[sL T 0 2 2] W fun e w'=>(∃a1 ab,e=.returned (.slice a1 (EN l m).length ab)∧(EN l m).length≤ab∧ab≤9223372036854775807∧Bp w'.cell? a1 (EN l m))∧Below W.heap.size W w'):=by
   intro W T bi bn bo;have V:Bp W.cell? (if cap=p+1 then a else a.map (·.add ((p+1)*2))) (l.drop (p+1)):=by
    split
    ·exact Bp.none (by simp;omega)
    ·exact bi.drop (p+1)
   exact Z8 T ⟨a,cap,l.take p⟩ ⟨if cap=p+1 then a else a.map (·.add ((p+1)*2)),cap-(p+1),l.drop (p+1)⟩ (EN l m) W (by show EN l m=l.take p++l.drop (p+1);rw[R.out,aa.out];rfl) bl.out (by rw[bf];exact bn) (by rw[show(l.drop (p+1)).length=l.length-(p+1) by simp];exact bo) (bi.take p) V
  clear R aa bf;go_enter func59,ntmps59;go_wp2_with fail
  refine(E9 a cap l m _ ad ak ao h).mono ?_;rintro e I ⟨rfl,H⟩;rw[Z.out,az.out,Co F.out];have bp:=h.below H;have c0:Ce (I.drew.alloc (.cells #[.slice a p cap,.slice (if cap=p+1 then a else a.map (·.add ((p+1)*2))) (l.length-(p+1)) (cap-(p+1))] 51)) I.heap.size 0 (.slice a p cap):=aC;have c1:Ce (I.drew.alloc (.cells #[.slice a p cap,.slice (if cap=p+1 then a else a.map (·.add ((p+1)*2))) (l.length-(p+1)) (cap-(p+1))] 51)) I.heap.size 1 (.slice (if cap=p+1 then a else a.map (·.add ((p+1)*2))) (l.length-(p+1)) (cap-(p+1))):=aC;have Y:Below w.heap.size w (I.drew.alloc (.cells #[.slice a p cap,.slice (if cap=p+1 then a else a.map (·.add ((p+1)*2))) (l.length-(p+1)) (cap-(p+1))] 51)):=(rz H 1).alloc H.size _;have V:=h.below Y;go_wp2_with fail
  go_region_held3 (fun _=>True) (trivial) (first|(go_at_call 106;refine(bg.out _ _ V c0 c1).mono ?_;rintro e b0 ⟨⟨a1,ab,rfl,g1,bs,g3⟩,a6⟩;generalize(if cap=p+1 then a else a.map (·.add ((p+1)*2)))=b1 at V c0 c1 Y a6⊢))
  all_goals
   have bu:=Y.trans (a6.mono Y.size);clear Y a6 H bp V c0 c1 bg
   go_wp2;go_ret2;exact Eu.good G.out (bb.out G.out) g1 bs g3 bu
end Go.Proofs.YtofhphibahcniaaGreatDoor
