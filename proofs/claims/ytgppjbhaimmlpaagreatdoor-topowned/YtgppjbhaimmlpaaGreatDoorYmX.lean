/-
  TopOwned: Ym Al Am Yn Yi.
-/
import Derived.Test.YtgppjbhaimmlpaaGreatDoorApX
import Derived.Test.YtgppjbhaimmlpaaGreatDoorVeX
import Derived.Test.YtgppjbhaimmlpaaGreatDoorYhX
import Derived.Test.YtgppjbhaimmlpaaGreatDoorYpX
import Derived.Test.YtgppjbhaimmlpaaGreatDoorCcX
import Derived.Test.YtgppjbhaimmlpaaGreatDoorKbX
import Derived.Test.YtgppjbhaimmlpaaGreatDoorFiX
set_option maxRecDepth 100000
set_option maxHeartbeats 16000000
namespace Go.Proofs.YtgppjbhaimmlpaaGreatDoor
open Go.RowKit Go.Proofs.Tryz
def Df(w:World)(b:Nat):Prop:=(w.cell? ⟨b,0,none⟩=some (.int .i64 0)∧w.cell? ⟨b,1,none⟩=some (.int .i64 0)∧w.cell? ⟨b,2,none⟩=some (.int .i64 0)∧w.cell? ⟨b,3,none⟩=some (.int .i64 0)∧w.cell? ⟨b,4,none⟩=some (.int .i64 0)∧w.cell? ⟨b,5,none⟩=some (.slice none 0 0)∧w.cell? ⟨b,6,none⟩=some (.string ⟨#[]⟩))∧∀j,w.frozen? ⟨b,j,none⟩=false
def GE(v:Value):Prop:=∃(k m u g n:Int) (a:Option Addr) (F G:Nat) (d:BA),v=.agg #[.int .i64 k,.int .i64 m,.int .i64 u,.int .i64 g,.int .i64 n,.slice a F G,.string d]
theorem Df.new(w:World)(b:Nat)(hb:b=w.heap.size):Df (w.alloc (.cells #[.int .i64 0,.int .i64 0,.int .i64 0,.int .i64 0,.int .i64 0,.slice none 0 0,.string ⟨#[]⟩] 42)) b:=⟨⟨nk _ _ _ _ hb,nk _ _ _ _ hb,nk _ _ _ _ hb,nk _ _ _ _ hb,nk _ _ _ _ hb,nk _ _ _ _ hb,nk _ _ _ _ hb⟩,fun _=>nP _ _ _ _ hb⟩
theorem Df.lt{w:World}{b:Nat}(h:Df w b):b<w.heap.size:=ny w ⟨b,0,none⟩ h.1.1
theorem Df.below{w w':World}{b:Nat}(h:Df w b)(hb:Bw w w'):Df w' b:=by
 obtain⟨⟨F,G,H,I,J,O,Q⟩,R⟩:=id h;exact⟨⟨Ad hb F,Ad hb G,Ad hb H,Ad hb I,Ad hb J,Ad hb O,Ad hb Q⟩,fun j=>(hb.frozen (p:=⟨b,j,none⟩) h.lt).trans (R j)⟩
def Bk(w:World)(b:Nat)(v0 F G v3 v4 v5 H:Value):World:=((((((w.setCell ⟨b,0,none⟩ v0).setCell ⟨b,1,none⟩ F).setCell ⟨b,2,none⟩ G).setCell ⟨b,3,none⟩ v3).setCell ⟨b,4,none⟩ v4).setCell ⟨b,5,none⟩ v5).setCell ⟨b,6,none⟩ H
theorem ES{G w:World}{n b:Nat}{v0 H I v3 v4 v5 J:Value}(F:n≤b)(h:Below n G w):Below n G (Bk w b v0 H I v3 v4 v5 J):=((((((h.setCell (p:=⟨b,0,none⟩) F _).setCell (p:=⟨b,1,none⟩) F _).setCell (p:=⟨b,2,none⟩) F _).setCell (p:=⟨b,3,none⟩) F _).setCell (p:=⟨b,4,none⟩) F _).setCell (p:=⟨b,5,none⟩) F _).setCell (p:=⟨b,6,none⟩) F _
theorem Df.store{w:World}{b:Nat}(h:Df w b)(v0 F G v3 v4 v5 H:Value):(Bk w b v0 F G v3 v4 v5 H).cell? ⟨b,0,none⟩=some v0∧(Bk w b v0 F G v3 v4 v5 H).cell? ⟨b,1,none⟩=some F∧(Bk w b v0 F G v3 v4 v5 H).cell? ⟨b,2,none⟩=some G∧(Bk w b v0 F G v3 v4 v5 H).cell? ⟨b,3,none⟩=some v3∧(Bk w b v0 F G v3 v4 v5 H).cell? ⟨b,4,none⟩=some v4∧(Bk w b v0 F G v3 v4 v5 H).cell? ⟨b,5,none⟩=some v5∧(Bk w b v0 F G v3 v4 v5 H).cell? ⟨b,6,none⟩=some H:=by
 obtain⟨⟨I,J,O,Q,R,T,V⟩,_⟩:=h;unfold Bk;refine⟨?_,?_,?_,?_,?_,?_,?_⟩
 ·rw[AA (by omega),AA (by omega),AA (by omega),AA (by omega),AA (by omega),AA (by omega)];exact nH _ _ _ I
 ·rw[AA (by omega),AA (by omega),AA (by omega),AA (by omega),AA (by omega)];exact nH _ _ _ ((AA (by omega)).trans J)
 ·rw[AA (by omega),AA (by omega),AA (by omega),AA (by omega)];exact nH _ _ _ ((AA (by omega)).trans ((AA (by omega)).trans O))
 ·rw[AA (by omega),AA (by omega),AA (by omega)];exact nH _ _ _ ((AA (by omega)).trans ((AA (by omega)).trans ((AA (by omega)).trans Q)))
 ·rw[AA (by omega),AA (by omega)];exact nH _ _ _ ((AA (by omega)).trans ((AA (by omega)).trans ((AA (by omega)).trans ((AA (by omega)).trans R))))
 ·rw[AA (by omega)];exact nH _ _ _ ((AA (by omega)).trans ((AA (by omega)).trans ((AA (by omega)).trans ((AA (by omega)).trans ((AA (by omega)).trans T)))))
 ·exact nH _ _ _ ((AA (by omega)).trans ((AA (by omega)).trans ((AA (by omega)).trans ((AA (by omega)).trans ((AA (by omega)).trans ((AA (by omega)).trans V))))))
theorem Kc{B:Bx}{w:World}{nf:List BA}{x0:Nd}{ni:List Nd}{t dir:Th}{na:Option Addr}{nc:Nat}{nm:List BA}{I:Bool}{J O Q R:Int}{T:Bool}{F:List Kv}{V:BA}{xs:At}{Y:Hd}{ly:Int}(G:BS B x0 ni)(h:GL B w nf ⟨t,dir,na,nc,nm,I,.mk J O Q R T F V xs,Y,ly⟩)(Z:I=true):F.length≤255∧EM F:=by
 obtain⟨q,r,aa,H,_⟩:=h.there Z;dsimp only at H
 have e:=QJ (xs:=B.xs) (fun x hx=>by
  rw[G.xs]at hx;rcases nX.1 hx with rfl|hx
  ·exact G.fine.lil
  ·exact G.lils x hx) nf q (by rw[aa];exact nJ ..)
 obtain⟨⟨k,m,u,g,o,nh,d,ks⟩,l⟩:=q;rw[AB]at e;simp only[Nd.with,Nd.mk.injEq]at H;obtain⟨_,_,_,_,_,rfl,_⟩:=H;exact⟨e.1.1,e.1.2⟩
theorem TN{w:World}{b:Nat}{a:Addr}{v v0 G H v3 v4 v5 I:Value}(F:a.block≠b)(h:w.cell? a=some v):(((((((w.setCell ⟨b,0,none⟩ v0).setCell ⟨b,1,none⟩ G).setCell ⟨b,2,none⟩ H).setCell ⟨b,3,none⟩ v3).setCell ⟨b,4,none⟩ v4).setCell ⟨b,5,none⟩ v5).setCell ⟨b,6,none⟩ I).cell? a=some v:=by
 rw[AW F,AW F,AW F,AW F,AW F,AW F,AW F];exact h
theorem Xp{w:World}{b:Nat}{B:Bx}{x0:Nd}{ni:List Nd}(h:A5 w b B)(bf:BS B x0 ni){R T V:Int}{Q Y Z aa:BA}(bv:Int)(bx:w.cell? ⟨0,0,none⟩=some (.int .i64 bv)):
 Calls prog 20 #[.pointer (some ⟨b,0,none⟩),.agg #[.int .i64 R,.string Q,.string Y,.string Z,.string aa,.int .i64 T,.int .i64 V]] w fun e w'=>(∃v E,e=.returned (.tuple #[v,Am E])∧GE v)∧Bw w w':=by
 have bg:Bw w (w.alloc (Ax R Q Y Z aa T V)):=(nt _ _).alloc (nl _) _;have ba:Bw w ((w.alloc (Ax R Q Y Z aa T V)).alloc Cg):=bg.alloc bg.size _;have bi:=hid ba;have bk:Hid (Df ((w.alloc (Ax R Q Y Z aa T V)).alloc Cg) (w.heap.size+1)):=Df.new _ _ (by rw[nv]);obtain⟨c4,c5,c6,c8,c9,da,db⟩:=c7 w R Q Y Z aa T V Cg;have bA:=hid (QX (h.below ba) bf Q false bv (Ad ba bx));have dd:=hid h;have b4:=hid bf;clear h bf ba bg bx;go_enter func20,ntmps20;go_upto_region 1 with fail
 generalize((w.alloc (Ax R Q Y Z aa T V)).alloc Cg)=de at*;go_wp2_with fail
 refine nn bA.out ?_;rintro e H ⟨b5,q2⟩;clear bA;obtain⟨cs,E,rfl,bl,bB,bC⟩:=b5;obtain⟨G,dg,I,bn,b6⟩:=FV H cs bl bB;have b7:=BT cs;unfold Value.cells at b7;have dj:=hid bl;have bF:=hid (q2.trans (bn.out.mono q2.size));have bG:=hid (bi.out.trans (bF.out.mono bi.out.size));have bH:Hid _:=bC;have dk:=hid (nO bi.out.size q2.size);clear bB bC bl;have dm:=hid (nG bk.out.lt q2.size);have bb:=hid (bk.out.below bF.out);clear bk;by_cases bY:E=0
 ·subst bY
  obtain⟨f,J,b0,bo,bp,b1,bd,bs⟩:=bH.out rfl;clear bH;have be:=Fu b0;rw[←bo]at be;rw[show Am 0=Value.nilIface from rfl];obtain⟨⟨b9,cb,cf,tg,dn⟩,dp,na,nc,nf,dr,⟨cg,ds,du,dw,dx,ch,ab,xs⟩,b2,ly⟩:=f;dsimp only at bo bp b1 bd bs be;have dy:Ce G H.heap.size 0 (.bool b9):=I.out 0 _ (by rw[J];rfl);have dz:Ce G H.heap.size 1 (.int .i64 cb):=I.out 1 _ (by rw[J];rfl);have d0:Ce G H.heap.size 2 (.int .i64 cf):=I.out 2 _ (by rw[J];rfl);have d1:Ce G H.heap.size 3 (.int .i64 tg):=I.out 3 _ (by rw[J];rfl);have d2:Ce G H.heap.size 10 (.slice na nf.length nc):=I.out 10 _ (by rw[J];rfl);have d3:Ce G H.heap.size 12 (.int .i64 cg):=I.out 12 _ (by rw[J];rfl);have d4:Ce G H.heap.size 17 (.slice b2.aa ch.length b2.ca):=I.out 17 _ (by rw[J];rfl);have d5:Ce G H.heap.size 18 (.string ab):=I.out 18 _ (by rw[J];rfl);have d6:=hid (bp.on (Aj bn.out));have d7:=hid be.2.1;have d8:=hid (bd.nd.on (Aj bn.out));have d9:=hid (Kc b4.out bd (bs rfl));clear J b0 bo bp b1 bd bs be b6 I;have ad:Hid (Bw w (Bk G (w.heap.size+1) (.int .i64 0) (.int .i64 0) (.int .i64 0) (.int .i64 0) (.int .i64 0) (.slice none 0 0) (.string ab))):=ES (by omega) (bG.out);obtain⟨ak,ao,ap,az,a1,a6,a7⟩:=(bb.out).store (.int .i64 0) (.int .i64 0) (.int .i64 0) (.int .i64 0) (.int .i64 0) (.slice none 0 0) (.string ab);obtain⟨⟨t0,cl,co,t3,t4,t5,cp⟩,F⟩:=id (bb.out);have cq:=F 0;have cr:=F 1;have cu:=F 2;have cx:=F 3;have cA:=F 4;have cB:=F 5;have c3:=F 6;obtain⟨a8,O⟩:∃a8,Bk G (w.heap.size+1) (.int .i64 0) (.int .i64 0) (.int .i64 0) (.int .i64 0) (.int .i64 0) (.slice none 0 0) (.string ab)=a8:=⟨_,rfl⟩;rw[O]at ak ao ap az a1 a6 a7 ad;unfold Bk at O;have bu:Hid _:=O;clear O F;go_wp2;rw[bu.out];refine nF (v:=.tuple #[.agg #[.int .i64 0,.int .i64 0,.int .i64 0,.int .i64 0,.int .i64 0,.slice none 0 0,.string ab],.nilIface]) (by simp[results,results20,go_sem,ak,ao,ap,az,a1,a6,a7]) rfl ⟨⟨_,0,rfl,⟨_,_,_,_,_,_,_,_,_,rfl⟩⟩,ad.out⟩
 ·have b3:=AH (n:=E) rfl bY
  rw[b3];have ad:Hid (Bw w (Bk G (w.heap.size+1) (.int .i64 0) (.int .i64 0) (.int .i64 0) (.int .i64 0) (.int .i64 0) (.slice none 0 0) (.string ⟨#[]⟩))):=ES (by omega) (bG.out);obtain⟨ak,ao,ap,az,a1,a6,a7⟩:=(bb.out).store (.int .i64 0) (.int .i64 0) (.int .i64 0) (.int .i64 0) (.int .i64 0) (.slice none 0 0) (.string ⟨#[]⟩);obtain⟨⟨t0,cl,co,t3,t4,t5,cp⟩,F⟩:=id (bb.out);have cq:=F 0;have cr:=F 1;have cu:=F 2;have cx:=F 3;have cA:=F 4;have cB:=F 5;have c3:=F 6;obtain⟨a8,O⟩:∃a8,Bk G (w.heap.size+1) (.int .i64 0) (.int .i64 0) (.int .i64 0) (.int .i64 0) (.int .i64 0) (.slice none 0 0) (.string ⟨#[]⟩)=a8:=⟨_,rfl⟩;rw[O]at ak ao ap az a1 a6 a7 ad;unfold Bk at O;have bu:Hid _:=O;clear O F;go_wp2;rw[bu.out];refine nF (v:=.tuple #[.agg #[.int .i64 0,.int .i64 0,.int .i64 0,.int .i64 0,.int .i64 0,.slice none 0 0,.string ⟨#[]⟩],.iface 74 (.int .i64 E)]) (by simp[results,results20,go_sem,ak,ao,ap,az,a1,a6,a7]) rfl ⟨⟨_,E,by rw[b3],⟨_,_,_,_,_,_,_,_,_,rfl⟩⟩,ad.out⟩
theorem Xo{w:World}{b:Nat}{B:Bx}{x0:Nd}{ni:List Nd}(h:A5 w b B)(bi:BS B x0 ni){T V Y:Int}{Q Z aa ab:BA}(b1:Int)(b2:w.cell? ⟨0,0,none⟩=some (.int .i64 b1)):
 Calls prog 19 #[.pointer (some ⟨b,0,none⟩),.agg #[.int .i64 T,.string Q,.string Z,.string aa,.string ab,.int .i64 V,.int .i64 Y]] w fun e w'=>(∃v E,e=.returned (.tuple #[v,Am E])∧GE v)∧Bw w w':=by
 have bk:Bw w (w.alloc (Ax T Q Z aa ab V Y)):=(nt _ _).alloc (nl _) _;have bb:Bw w ((w.alloc (Ax T Q Z aa ab V Y)).alloc Cg):=bk.alloc bk.size _;have bl:=hid bb;have bn:Hid (Df ((w.alloc (Ax T Q Z aa ab V Y)).alloc Cg) (w.heap.size+1)):=Df.new _ _ (by rw[nv]);obtain⟨d5,d6,d7,d8,d9,ea,eb⟩:=c7 w T Q Z aa ab V Y Cg;have b3:=hid (QX (h.below bb) bi Q true b1 (Ad bb b2));have b4:=hid h;have bo:=hid bi;clear h bi bb bk b2;go_enter func19,ntmps19;go_upto_region 1 with fail
 generalize((w.alloc (Ax T Q Z aa ab V Y)).alloc Cg)=ec at*;go_wp2_with fail
 refine nn b3.out ?_;rintro e H ⟨cx,q2⟩;clear b3;obtain⟨cs,E,rfl,bp,b5,b6⟩:=cx;obtain⟨G,ed,I,bs,cA⟩:=FV H cs bp b5;have cB:=BT cs;unfold Value.cells at cB;have ee:=hid bp;have b7:=hid (q2.trans (bs.out.mono q2.size));have bu:=hid (bl.out.trans (b7.out.mono bl.out.size));have b9:Hid _:=b6;have ef:=hid (nO bl.out.size q2.size);clear b5 b6 bp;have c3:=hid (nG bn.out.lt q2.size);have bv:=hid (bn.out.below b7.out);clear bn;by_cases cb:E=0
 ·subst cb
  obtain⟨f,J,cf,bx,bA,cg,bd,bB⟩:=b9.out rfl;clear b9;have be:=Fu cf;rw[←bx]at be;rw[show Am 0=Value.nilIface from rfl];obtain⟨⟨c4,c5,c6,tg,eg⟩,ej,na,nc,nf,ek,⟨c8,el,em,en,eo,c9,da,xs⟩,ch,ly⟩:=f;dsimp only at bx bA cg bd bB be;have ep:Ce G H.heap.size 0 (.bool c4):=I.out 0 _ (by rw[J];rfl);have cl:Ce G H.heap.size 1 (.int .i64 c5):=I.out 1 _ (by rw[J];rfl);have co:Ce G H.heap.size 2 (.int .i64 c6):=I.out 2 _ (by rw[J];rfl);have eq:Ce G H.heap.size 3 (.int .i64 tg):=I.out 3 _ (by rw[J];rfl);have db:Ce G H.heap.size 10 (.slice na nf.length nc):=I.out 10 _ (by rw[J];rfl);have er:Ce G H.heap.size 12 (.int .i64 c8):=I.out 12 _ (by rw[J];rfl);have es:Ce G H.heap.size 17 (.slice ch.aa c9.length ch.ca):=I.out 17 _ (by rw[J];rfl);have eu:Ce G H.heap.size 18 (.string da):=I.out 18 _ (by rw[J];rfl);have dd:=hid (bA.on (Aj bs.out));have de:=hid be.2.1;have ev:=hid (bd.nd.on (Aj bs.out));have eB:=hid (Kc bo.out bd (bB rfl));clear J cf bx bA cg bd bB be cA I;have bC:=b4.out.below bu.out;have bF:=bC.lay;have bG:=bC.cells.2.2.1;rw[bo.out.xs]at bF bG;have bH:Ce G.drew b 2 (.slice B.la (ni.length+1) B.lc)∧Ce G.drew H.heap.size 10 (.slice na nf.length nc):=⟨bG,db⟩;have dg:b<w.heap.size:=ny w ⟨b,2,none⟩ b4.out.cells.2.2.1;have dj:=c3.out;have dk:Hid (b≠w.heap.size+1):=by
   exact(by omega:b≠w.heap.size+1)
  have dm:Hid (H.heap.size≠w.heap.size+1):=by
   exact(by omega:H.heap.size≠w.heap.size+1)
  clear dg dj;have cp:Hid (Calls prog 34 #[.slice B.la (ni.length+1) B.lc,.slice na nf.length nc] G.drew fun e w'=>(∃a n cap,e=.returned (.slice a n cap))∧Bw G.drew w'):=by
   refine nn (MV (w:=G.drew) (S:=fun _=>false) (xs:=x0::ni) (a:=B.la) (cap:=B.lc) (an:=na) (nj:=nc) (nf:=nf) (fun _ dn=>(by cases dn)) (by rw[C4];exact bF) (by rw[C4];exact dd.out) (bo.out.sz.ok (by omega)) (by have:=de.out;omega)) ?_;rintro e w' ⟨⟨dp,c1,cl,_⟩,co⟩;exact⟨⟨dp,_,c1,cl⟩,co⟩
  have cq:=hid bu.out.drew;clear bF bG bC;go_upto_region 4 with fail
  go_region_held3 (fun w'=>Ce w' b 2 (.slice B.la (ni.length+1) B.lc)∧Ce w' H.heap.size 10 (.slice na nf.length nc)) (first|with_reducible exact bH|with_reducible exact bY|exact⟨TN dk.out bY.1,TN dm.out bY.2⟩) (first|(go_at_call 34;(with_reducible refine nn cp.out ?_);rintro e R ⟨⟨la,bf,bg,rfl⟩,ad⟩;have bY:Ce R b 2 (.slice B.la (ni.length+1) B.lc)∧Ce R H.heap.size 10 (.slice na nf.length nc):=⟨Ad ad bH.1,Ad ad bH.2⟩;have dr:Hid (Bw w R):=cq.out.trans (ad.mono cq.out.size);have ds:Hid (Bw G R):=(nt _ _).drew.trans ad;have cr:Hid (Df R (w.heap.size+1)):=bv.out.below ds.out;obtain⟨⟨t0,du,dw,t3,t4,t5,dx⟩,F⟩:=id cr.out;have dy:=F 0;have dz:=F 1;have d0:=F 2;have d1:=F 3;have d2:=F 4;have d3:=F 5;have d4:=F 6;clear F cp ad))
  all_goals
   have ak:Hid (Bw w (Bk R (w.heap.size+1) (.int .i64 0) (.int .i64 0) (.int .i64 0) (.int .i64 0) (.int .i64 0) (.slice la bf bg) (.string ⟨#[]⟩))):=ES (by omega) (dr.out);obtain⟨ao,ap,az,a1,a6,a7,a8⟩:=(cr.out).store (.int .i64 0) (.int .i64 0) (.int .i64 0) (.int .i64 0) (.int .i64 0) (.slice la bf bg) (.string ⟨#[]⟩);obtain⟨ba,O⟩:∃ba,Bk R (w.heap.size+1) (.int .i64 0) (.int .i64 0) (.int .i64 0) (.int .i64 0) (.int .i64 0) (.slice la bf bg) (.string ⟨#[]⟩)=ba:=⟨_,rfl⟩;rw[O]at ao ap az a1 a6 a7 a8 ak;unfold Bk at O;have b0:Hid _:=O;clear O;rw[b0.out];go_wp2;refine nF (v:=.tuple #[.agg #[.int .i64 0,.int .i64 0,.int .i64 0,.int .i64 0,.int .i64 0,.slice la bf bg,.string ⟨#[]⟩],.nilIface]) (by simp[results,results19,go_sem,ao,ap,az,a1,a6,a7,a8]) rfl ⟨⟨_,0,rfl,⟨_,_,_,_,_,_,_,_,_,rfl⟩⟩,ak.out⟩
 ·have cu:=AH (n:=E) rfl cb
  rw[cu];have ak:Hid (Bw w (Bk G (w.heap.size+1) (.int .i64 0) (.int .i64 0) (.int .i64 0) (.int .i64 0) (.int .i64 0) (.slice none 0 0) (.string ⟨#[]⟩))):=ES (by omega) (bu.out);obtain⟨ao,ap,az,a1,a6,a7,a8⟩:=(bv.out).store (.int .i64 0) (.int .i64 0) (.int .i64 0) (.int .i64 0) (.int .i64 0) (.slice none 0 0) (.string ⟨#[]⟩);obtain⟨⟨t0,du,dw,t3,t4,t5,dx⟩,F⟩:=id (bv.out);have dy:=F 0;have dz:=F 1;have d0:=F 2;have d1:=F 3;have d2:=F 4;have d3:=F 5;have d4:=F 6;obtain⟨ba,O⟩:∃ba,Bk G (w.heap.size+1) (.int .i64 0) (.int .i64 0) (.int .i64 0) (.int .i64 0) (.int .i64 0) (.slice none 0 0) (.string ⟨#[]⟩)=ba:=⟨_,rfl⟩;rw[O]at ao ap az a1 a6 a7 a8 ak;unfold Bk at O;have b0:Hid _:=O;clear O F;go_wp2;rw[b0.out];refine nF (v:=.tuple #[.agg #[.int .i64 0,.int .i64 0,.int .i64 0,.int .i64 0,.int .i64 0,.slice none 0 0,.string ⟨#[]⟩],.iface 74 (.int .i64 E)]) (by simp[results,results19,go_sem,ao,ap,az,a1,a6,a7,a8]) rfl ⟨⟨_,E,by rw[cu],⟨_,_,_,_,_,_,_,_,_,rfl⟩⟩,ak.out⟩
theorem Xk{w:World}{b:Nat}{B:Bx}{x0:Nd}{ni:List Nd}(h:A5 w b B)(bl:BS B x0 ni){Y Z aa:Int}{J ab ad ak:BA}(cr:Int)(cu:w.cell? ⟨0,0,none⟩=some (.int .i64 cr)):
 Calls prog 18 #[.pointer (some ⟨b,0,none⟩),.agg #[.int .i64 Y,.string J,.string ab,.string ad,.string ak,.int .i64 Z,.int .i64 aa]] w fun e w'=>(∃v E,e=.returned (.tuple #[v,Am E])∧GE v)∧Bw w w':=by
 have bx:Bw w (w.alloc (Ax Y J ab ad ak Z aa)):=(nt _ _).alloc (nl _) _;have bn:Bw w ((w.alloc (Ax Y J ab ad ak Z aa)).alloc Cg):=bx.alloc bx.size _;have bA:=hid bn;have bB:Hid (Df ((w.alloc (Ax Y J ab ad ak Z aa)).alloc Cg) (w.heap.size+1)):=Df.new _ _ (by rw[nv]);obtain⟨d8,d9,ea,eb,ec,ed,ee⟩:=c7 w Y J ab ad ak Z aa Cg;have cx:Hid (Calls prog 33 #[.pointer (some ⟨b,0,none⟩),.string J] ((w.alloc (Ax Y J ab ad ak Z aa)).alloc Cg) fun e w'=>CC B w' J true e∧Bw ((w.alloc (Ax Y J ab ad ak Z aa)).alloc Cg) w'):=by
  refine nn (Jt (h.below bn) bl.good J (C7 _).1 (C7 _).2 cr (Ad bn cu)) ?_;rintro e w' ⟨dk,dm⟩;exact⟨IF bl.good dk,dm⟩
 have cA:=hid h;have bC:=hid bl;clear h bl bn bx cu;go_enter func18,ntmps18;go_upto_region 1 with fail
 generalize((w.alloc (Ax Y J ab ad ak Z aa)).alloc Cg)=ef at*;go_wp2_with fail
 refine nn cx.out ?_;rintro e H ⟨dn,q2⟩;clear cx;obtain⟨cs,E,rfl,bF,cB,c3⟩:=dn;obtain⟨G,eg,O,bG,dp⟩:=FV H cs bF cB;have dr:=BT cs;unfold Value.cells at dr;have ej:=hid bF;have c4:=hid (q2.trans (bG.out.mono q2.size));have bo:=hid (bA.out.trans (c4.out.mono bA.out.size));have c5:Hid _:=c3;have ek:=hid (nO bA.out.size q2.size);clear cB c3 bF;have ds:=hid (nG bB.out.lt q2.size);have be:=hid (bB.out.below c4.out);clear bB;by_cases c6:E=0
 ·subst c6
  obtain⟨f,Q,c8,bH,bY,c9,bp,b0⟩:=c5.out rfl;clear c5;have bs:=Fu c8;rw[←bH]at bs;rw[show Am 0=Value.nilIface from rfl];obtain⟨⟨da,R,T,tg,el⟩,em,na,nc,nf,en,⟨V,eo,ep,eq,er,du,bf,xs⟩,db,ly⟩:=f;dsimp only at bH bY c9 bp b0 bs;have es:Ce G H.heap.size 0 (.bool da):=O.out 0 _ (by rw[Q];rfl);have b1:Ce G H.heap.size 1 (.int .i64 R):=O.out 1 _ (by rw[Q];rfl);have b2:Ce G H.heap.size 2 (.int .i64 T):=O.out 2 _ (by rw[Q];rfl);have dw:Ce G H.heap.size 3 (.int .i64 tg):=O.out 3 _ (by rw[Q];rfl);have dx:Ce G H.heap.size 10 (.slice na nf.length nc):=O.out 10 _ (by rw[Q];rfl);have dy:Ce G H.heap.size 12 (.int .i64 V):=O.out 12 _ (by rw[Q];rfl);have eu:Ce G H.heap.size 17 (.slice db.aa du.length db.ca):=O.out 17 _ (by rw[Q];rfl);have ev:Ce G H.heap.size 18 (.string bf):=O.out 18 _ (by rw[Q];rfl);have dz:=hid (bY.on (Aj bG.out));have d0:=hid bs.2.1;have eB:=hid (bp.nd.on (Aj bG.out));have eE:=hid (Kc bC.out bp (b0 rfl));clear Q c8 bH bY c9 bp b0 bs dp O;cases da with
  |false=>
   have ao:Hid (Bw w (Bk G (w.heap.size+1) (.int .i64 V) (.int .i64 R) (.int .i64 T) (.int .i64 tg) (.int .i64 (bf.size:Int)) (.slice none 0 0) (.string ⟨#[]⟩))):=ES (by omega) (bo.out);obtain⟨ap,az,a1,a6,a7,a8,ba⟩:=(be.out).store (.int .i64 V) (.int .i64 R) (.int .i64 T) (.int .i64 tg) (.int .i64 (bf.size:Int)) (.slice none 0 0) (.string ⟨#[]⟩);obtain⟨⟨t0,b3,b4,t3,t4,t5,b5⟩,F⟩:=id (be.out);have b6:=F 0;have b7:=F 1;have b9:=F 2;have cb:=F 3;have cf:=F 4;have cg:=F 5;have ch:=F 6;obtain⟨bb,I⟩:∃bb,Bk G (w.heap.size+1) (.int .i64 V) (.int .i64 R) (.int .i64 T) (.int .i64 tg) (.int .i64 (bf.size:Int)) (.slice none 0 0) (.string ⟨#[]⟩)=bb:=⟨_,rfl⟩;rw[I]at ap az a1 a6 a7 a8 ba ao;unfold Bk at I;have bg:Hid _:=I;clear I F;go_wp2;rw[bg.out];refine nF (v:=.tuple #[.agg #[.int .i64 V,.int .i64 R,.int .i64 T,.int .i64 tg,.int .i64 (bf.size:Int),.slice none 0 0,.string ⟨#[]⟩],.nilIface]) (by simp[results,results18,go_sem,ap,az,a1,a6,a7,a8,ba]) rfl ⟨⟨_,0,rfl,⟨_,_,_,_,_,_,_,_,_,rfl⟩⟩,ao.out⟩
  |true=>
   have cl:=cA.out.below bo.out;have co:=cl.lay;have cp:=cl.cells.2.2.1;rw[bC.out.xs]at co cp;have bu:Ce G.drew b 2 (.slice B.la (ni.length+1) B.lc)∧Ce G.drew H.heap.size 10 (.slice na nf.length nc):=⟨cp,dx⟩;have d1:b<w.heap.size:=ny w ⟨b,2,none⟩ cA.out.cells.2.2.1;have d2:=ds.out;have d3:Hid (b≠w.heap.size+1):=by
    exact(by omega:b≠w.heap.size+1)
   have d4:Hid (H.heap.size≠w.heap.size+1):=by
    exact(by omega:H.heap.size≠w.heap.size+1)
   clear d1 d2;have dd:Hid (Calls prog 34 #[.slice B.la (ni.length+1) B.lc,.slice na nf.length nc] G.drew fun e w'=>(∃a n cap,e=.returned (.slice a n cap))∧Bw G.drew w'):=by
    refine nn (MV (w:=G.drew) (S:=fun _=>false) (xs:=x0::ni) (a:=B.la) (cap:=B.lc) (an:=na) (nj:=nc) (nf:=nf) (fun _ d5=>(by cases d5)) (by rw[C4];exact co) (by rw[C4];exact dz.out) (bC.out.sz.ok (by omega)) (by have:=d0.out;omega)) ?_;rintro e w' ⟨⟨d6,c1,b1,_⟩,b2⟩;exact⟨⟨d6,_,c1,b1⟩,b2⟩
   have de:=hid bo.out.drew;clear co cp cl;go_upto_region 6 with fail
   go_region_held3 (fun w'=>Ce w' b 2 (.slice B.la (ni.length+1) B.lc)∧Ce w' H.heap.size 10 (.slice na nf.length nc)) (first|with_reducible exact bu|with_reducible exact dg) (first|(go_at_call 34;(with_reducible refine nn dd.out ?_);rintro e bd ⟨⟨la,bv,eF,rfl⟩,bi⟩;have dg:Ce bd b 2 (.slice B.la (ni.length+1) B.lc)∧Ce bd H.heap.size 10 (.slice na nf.length nc):=⟨Ad bi bu.1,Ad bi bu.2⟩;have d7:Hid (Bw w bd):=de.out.trans (bi.mono de.out.size);have bk:Hid (Bw G bd):=(nt _ _).drew.trans bi;have cq:Hid (Df bd (w.heap.size+1)):=be.out.below bk.out;obtain⟨⟨t0,b3,b4,t3,t4,t5,b5⟩,F⟩:=id cq.out;have b6:=F 0;have b7:=F 1;have b9:=F 2;have cb:=F 3;have cf:=F 4;have cg:=F 5;have ch:=F 6;clear F dd bi))
   all_goals
    have g1:=Ad bk.out b1;have eG:=Ad bk.out b2;have g3:=Ad bk.out dw;have eH:=Ad bk.out dy;clear bu dg d3 d4;have ao:Hid (Bw w (Bk bd (w.heap.size+1) (.int .i64 V) (.int .i64 R) (.int .i64 T) (.int .i64 tg) (.int .i64 (bv:Int)) (.slice none 0 0) (.string ⟨#[]⟩))):=ES (by omega) (d7.out);obtain⟨ap,az,a1,a6,a7,a8,ba⟩:=(cq.out).store (.int .i64 V) (.int .i64 R) (.int .i64 T) (.int .i64 tg) (.int .i64 (bv:Int)) (.slice none 0 0) (.string ⟨#[]⟩);obtain⟨⟨t0,b3,b4,t3,t4,t5,b5⟩,F⟩:=id (cq.out);have b6:=F 0;have b7:=F 1;have b9:=F 2;have cb:=F 3;have cf:=F 4;have cg:=F 5;have ch:=F 6;obtain⟨bb,I⟩:∃bb,Bk bd (w.heap.size+1) (.int .i64 V) (.int .i64 R) (.int .i64 T) (.int .i64 tg) (.int .i64 (bv:Int)) (.slice none 0 0) (.string ⟨#[]⟩)=bb:=⟨_,rfl⟩;rw[I]at ap az a1 a6 a7 a8 ba ao;unfold Bk at I;have bg:Hid _:=I;clear I F;go_wp2;rw[bg.out];refine nF (v:=.tuple #[.agg #[.int .i64 V,.int .i64 R,.int .i64 T,.int .i64 tg,.int .i64 (bv:Int),.slice none 0 0,.string ⟨#[]⟩],.nilIface]) (by simp[results,results18,go_sem,ap,az,a1,a6,a7,a8,ba]) rfl ⟨⟨_,0,rfl,⟨_,_,_,_,_,_,_,_,_,rfl⟩⟩,ao.out⟩
 ·have dj:=AH (n:=E) rfl c6
  rw[dj];have ao:Hid (Bw w (Bk G (w.heap.size+1) (.int .i64 0) (.int .i64 0) (.int .i64 0) (.int .i64 0) (.int .i64 0) (.slice none 0 0) (.string ⟨#[]⟩))):=ES (by omega) (bo.out);obtain⟨ap,az,a1,a6,a7,a8,ba⟩:=(be.out).store (.int .i64 0) (.int .i64 0) (.int .i64 0) (.int .i64 0) (.int .i64 0) (.slice none 0 0) (.string ⟨#[]⟩);obtain⟨⟨t0,b3,b4,t3,t4,t5,b5⟩,F⟩:=id (be.out);have b6:=F 0;have b7:=F 1;have b9:=F 2;have cb:=F 3;have cf:=F 4;have cg:=F 5;have ch:=F 6;obtain⟨bb,I⟩:∃bb,Bk G (w.heap.size+1) (.int .i64 0) (.int .i64 0) (.int .i64 0) (.int .i64 0) (.int .i64 0) (.slice none 0 0) (.string ⟨#[]⟩)=bb:=⟨_,rfl⟩;rw[I]at ap az a1 a6 a7 a8 ba ao;unfold Bk at I;have bg:Hid _:=I;clear I F;go_wp2;rw[bg.out];refine nF (v:=.tuple #[.agg #[.int .i64 0,.int .i64 0,.int .i64 0,.int .i64 0,.int .i64 0,.slice none 0 0,.string ⟨#[]⟩],.iface 74 (.int .i64 E)]) (by simp[results,results18,go_sem,ap,az,a1,a6,a7,a8,ba]) rfl ⟨⟨_,E,by rw[dj],⟨_,_,_,_,_,_,_,_,_,rfl⟩⟩,ao.out⟩
theorem Yt{w:World}{b:Nat}{B:Bx}{x0:Nd}{ni:List Nd}(h:A5 w b B)(bo:BS B x0 ni){O Q R:Int}{J T G V:BA}(b0:Int)(b1:w.cell? ⟨0,0,none⟩=some (.int .i64 b0))(b2:G.size≤1000):
 Calls prog 21 #[.pointer (some ⟨b,0,none⟩),.agg #[.int .i64 O,.string J,.string T,.string G,.string V,.int .i64 Q,.int .i64 R]] w fun e w'=>(∃v E,e=.returned (.tuple #[v,Am E])∧GE v)∧Bw w w':=by
 have bp:Bw w (w.alloc (Ax O J T G V Q R)):=(nt _ _).alloc (nl _) _;have bd:Bw w ((w.alloc (Ax O J T G V Q R)).alloc Cg):=bp.alloc bp.size _;have bs:=hid bd;have bu:Hid (Df ((w.alloc (Ax O J T G V Q R)).alloc Cg) (w.heap.size+1)):=Df.new _ _ (by rw[nv]);obtain⟨dn,dp,dr,c6,ds,du,dw⟩:=c7 w O J T G V Q R Cg;have b3:Hid (Calls prog 36 #[.pointer (some ⟨b,0,none⟩),El O J T G V Q R,.int .i64 4] ((w.alloc (Ax O J T G V Q R)).alloc Cg) fun e w'=>CC B w' J true e∧Bw ((w.alloc (Ax O J T G V Q R)).alloc Cg) w'):=Ph (h.below bd) bo 4 b0 (Ad bd b1) b2;have dx:=hid h;have c8:=hid bo;clear h bo bd bp b1;go_enter func21,ntmps21;go_upto_region 1 with fail
 generalize((w.alloc (Ax O J T G V Q R)).alloc Cg)=dy at*;go_wp2_with fail
 refine nn b3.out ?_;rintro e Y ⟨c9,q2⟩;clear b3;obtain⟨cs,E,rfl,bv,b4,b5⟩:=c9;obtain⟨I,dz,Z,bx,da⟩:=FV Y cs bv b4;have db:=BT cs;unfold Value.cells at db;have d0:=hid bv;have bA:=hid (q2.trans (bx.out.mono q2.size));have bB:=hid (bs.out.trans (bA.out.mono bs.out.size));have b6:Hid _:=b5;have d1:=hid (nO bs.out.size q2.size);clear b4 b5 bv;have d2:=hid (nG bu.out.lt q2.size);have bC:=hid (bu.out.below bA.out);clear bu;by_cases b7:E=0
 ·subst b7
  obtain⟨f,aa,b9,bF,bG,cb,be,bH⟩:=b6.out rfl;clear b6;have bf:=Fu b9;rw[←bF]at bf;rw[show Am 0=Value.nilIface from rfl];obtain⟨⟨dd,de,dg,tg,d3⟩,d4,na,nc,nf,d5,⟨dj,d6,d7,d8,d9,ba,dk,xs⟩,bg,ly⟩:=f;dsimp only at bF bG cb be bH bf;have ea:Ce I Y.heap.size 0 (.bool dd):=Z.out 0 _ (by rw[aa];rfl);have eb:Ce I Y.heap.size 1 (.int .i64 de):=Z.out 1 _ (by rw[aa];rfl);have ec:Ce I Y.heap.size 2 (.int .i64 dg):=Z.out 2 _ (by rw[aa];rfl);have ed:Ce I Y.heap.size 3 (.int .i64 tg):=Z.out 3 _ (by rw[aa];rfl);have ee:Ce I Y.heap.size 10 (.slice na nf.length nc):=Z.out 10 _ (by rw[aa];rfl);have ef:Ce I Y.heap.size 12 (.int .i64 dj):=Z.out 12 _ (by rw[aa];rfl);have eg:Ce I Y.heap.size 17 (.slice bg.aa ba.length bg.ca):=Z.out 17 _ (by rw[aa];rfl);have ej:Ce I Y.heap.size 18 (.string dk):=Z.out 18 _ (by rw[aa];rfl);have ek:=hid (bG.on (Aj bx.out));have el:=hid bf.2.1;have dm:=hid (be.nd.on (Aj bx.out));have cf:=hid (Kc c8.out be (bH rfl));clear aa b9 bF bG cb be bH bf da Z;have g3:=Ad bA.out c6;have bi:Hid (Calls prog 37 #[.slice bg.aa ba.length bg.ca,.string G] I fun e w'=>e=.returned (.tuple #[.string (G9 ba G),Am (GK ba G)])∧Bw I w'):=ZY _ _ _ _ _ (by have:=cf.out.1;omega) cf.out.2 b2 (Cj.1 dm.out).1;generalize G9 ba G=ab at bi;generalize GK ba G=bk at bi;go_wp2_with fail
  refine nn bi.out ?_;rintro e bl ⟨rfl,bY⟩;have cg:=hid (bB.out.trans (bY.mono bB.out.size));have bn:=hid (bC.out.below bY);clear bi bY;by_cases ch:bk=0
  ·subst ch
   rw[show Am 0=Value.nilIface from rfl];have ad:Hid (Bw w (Bk bl (w.heap.size+1) (.int .i64 0) (.int .i64 0) (.int .i64 0) (.int .i64 0) (.int .i64 0) (.slice none 0 0) (.string ab))):=ES (by omega) (cg.out);obtain⟨ak,ao,ap,az,a1,a6,a7⟩:=(bn.out).store (.int .i64 0) (.int .i64 0) (.int .i64 0) (.int .i64 0) (.int .i64 0) (.slice none 0 0) (.string ab);obtain⟨⟨t0,cl,co,t3,t4,t5,cp⟩,F⟩:=id (bn.out);have cq:=F 0;have cr:=F 1;have cu:=F 2;have cx:=F 3;have cA:=F 4;have cB:=F 5;have c3:=F 6;obtain⟨a8,H⟩:∃a8,Bk bl (w.heap.size+1) (.int .i64 0) (.int .i64 0) (.int .i64 0) (.int .i64 0) (.int .i64 0) (.slice none 0 0) (.string ab)=a8:=⟨_,rfl⟩;rw[H]at ak ao ap az a1 a6 a7 ad;unfold Bk at H;have bb:Hid _:=H;clear H F;go_wp2;rw[bb.out];refine nF (v:=.tuple #[.agg #[.int .i64 0,.int .i64 0,.int .i64 0,.int .i64 0,.int .i64 0,.slice none 0 0,.string ab],.nilIface]) (by simp[results,results21,go_sem,ak,ao,ap,az,a1,a6,a7]) rfl ⟨⟨_,0,rfl,⟨_,_,_,_,_,_,_,_,_,rfl⟩⟩,ad.out⟩
  ·have c4:=AH (n:=bk) rfl ch
   rw[c4];have ad:Hid (Bw w (Bk bl (w.heap.size+1) (.int .i64 0) (.int .i64 0) (.int .i64 0) (.int .i64 0) (.int .i64 0) (.slice none 0 0) (.string ab))):=ES (by omega) (cg.out);obtain⟨ak,ao,ap,az,a1,a6,a7⟩:=(bn.out).store (.int .i64 0) (.int .i64 0) (.int .i64 0) (.int .i64 0) (.int .i64 0) (.slice none 0 0) (.string ab);obtain⟨⟨t0,cl,co,t3,t4,t5,cp⟩,F⟩:=id (bn.out);have cq:=F 0;have cr:=F 1;have cu:=F 2;have cx:=F 3;have cA:=F 4;have cB:=F 5;have c3:=F 6;obtain⟨a8,H⟩:∃a8,Bk bl (w.heap.size+1) (.int .i64 0) (.int .i64 0) (.int .i64 0) (.int .i64 0) (.int .i64 0) (.slice none 0 0) (.string ab)=a8:=⟨_,rfl⟩;rw[H]at ak ao ap az a1 a6 a7 ad;unfold Bk at H;have bb:Hid _:=H;clear H F;go_wp2;rw[bb.out];refine nF (v:=.tuple #[.agg #[.int .i64 0,.int .i64 0,.int .i64 0,.int .i64 0,.int .i64 0,.slice none 0 0,.string ab],.iface 74 (.int .i64 bk)]) (by simp[results,results21,go_sem,ak,ao,ap,az,a1,a6,a7]) rfl ⟨⟨_,bk,by rw[c4],⟨_,_,_,_,_,_,_,_,_,rfl⟩⟩,ad.out⟩
 ·have c5:=AH (n:=E) rfl b7
  rw[c5];have ad:Hid (Bw w (Bk I (w.heap.size+1) (.int .i64 0) (.int .i64 0) (.int .i64 0) (.int .i64 0) (.int .i64 0) (.slice none 0 0) (.string ⟨#[]⟩))):=ES (by omega) (bB.out);obtain⟨ak,ao,ap,az,a1,a6,a7⟩:=(bC.out).store (.int .i64 0) (.int .i64 0) (.int .i64 0) (.int .i64 0) (.int .i64 0) (.slice none 0 0) (.string ⟨#[]⟩);obtain⟨⟨t0,cl,co,t3,t4,t5,cp⟩,F⟩:=id (bC.out);have cq:=F 0;have cr:=F 1;have cu:=F 2;have cx:=F 3;have cA:=F 4;have cB:=F 5;have c3:=F 6;obtain⟨a8,H⟩:∃a8,Bk I (w.heap.size+1) (.int .i64 0) (.int .i64 0) (.int .i64 0) (.int .i64 0) (.int .i64 0) (.slice none 0 0) (.string ⟨#[]⟩)=a8:=⟨_,rfl⟩;rw[H]at ak ao ap az a1 a6 a7 ad;unfold Bk at H;have bb:Hid _:=H;clear H F;go_wp2;rw[bb.out];refine nF (v:=.tuple #[.agg #[.int .i64 0,.int .i64 0,.int .i64 0,.int .i64 0,.int .i64 0,.slice none 0 0,.string ⟨#[]⟩],.iface 74 (.int .i64 E)]) (by simp[results,results21,go_sem,ak,ao,ap,az,a1,a6,a7]) rfl ⟨⟨_,E,by rw[c5],⟨_,_,_,_,_,_,_,_,_,rfl⟩⟩,ad.out⟩
end Go.Proofs.YtgppjbhaimmlpaaGreatDoor
namespace Go.Proofs.YtgppjbhaimmlpaaGreatDoor
open Go.RowKit Go.Sort Go.Shelf Go.Proofs.Tryz
theorem FJ(F:World)(X:Obj)(us:Array Value)(t:TypeId)(i:Nat)(u:Value)(h:us[i]? =some u):((F.alloc X).alloc (.cells us t)).cell? (aD (F.heap.size+1) i)=some u:=by
 have e:((F.alloc X).alloc (.cells us t)).cell? (aD ((F.alloc X).heap.size) i)=us[i]?:=aC;rw[nv]at e;rw[e,h]
def Eo(w w':World)(e:Ending)(L:List Kv)(f:Int):Prop:=
 (∃G F,e=.returned (.tuple #[.slice G L.length F,Am f])∧L.length≤F∧F≤9223372036854775807∧Bm w'.cell? G L)∧Below w.heap.size w w'
theorem Eo.bad{w w':World}{L:List Kv}{f n:Int}(F:f=n)(G:n≠0)(H:L=[])(I:Below w.heap.size w w'):Eo w w' (.returned (.tuple #[.slice none 0 0,.iface 74 (iN n)])) L f:=by
 subst H F;exact⟨⟨none,0,by rw[AH rfl G];rfl,by simp,by simp,.inl rfl⟩,I⟩
theorem Eo.good{w w':World}{L M:List Kv}{f:Int}{G:Option Addr}{F:Nat}(H:f=0)(I:M=L)(J:L.length≤F)(O:F≤9223372036854775807)(Q:Bm w'.cell? G L)(R:Below w.heap.size w w'):Eo w w' (.returned (.tuple #[.slice G L.length F,.nilIface])) M f:=by
 subst I H;exact⟨⟨G,F,rfl,J,O,Q⟩,R⟩
theorem Zy(a:Option Addr)(cap:Nat)(l:List Kv)(m v:BA)(w:World)(aa:l.length≤1000)(b2:l.length≤cap)(b3:cap≤9223372036854775807)(ab:EM l)(ad:m.size≤1000)(h:Bm w.cell? a l):
 Calls prog 46 #[.slice a l.length cap,.string m,.string v] w fun e w'=>Eo w w' e (GH l m v) (Gn l m v):=by
 obtain⟨P,bi⟩:=A3 (Fj l m);obtain⟨b4,be⟩:=A3 (Dr l m);obtain⟨bA,bk⟩:=A3 (GH l m v);obtain⟨ap,ak⟩:=A3 (Gn l m v);rw[bk.out,ak.out];have bf:Hid (ap≠0→bA=[]):=fun bl=>by rw[←bk.out];unfold GH;rw[nC (by rw[ak.out];exact bl)]
 have ba:Hid (ap=0→bA=Da l m v):=fun bl=>by rw[←bk.out];unfold GH;rw[nB (by rw[ak.out];simpa using bl)]
 by_cases a8:CS l m=0;rotate_left
 ·have I:Hid (CS l m≠0):=a8
  have H:Hid (ap=CS l m):=by show _=_;rw[←ak.out];unfold Gn;rw[nC I.out]
  clear a8;go_enter func46,ntmps46;go_wp2_with fail
  refine(Fc a cap l m _ aa ab ad h).mono ?_;rintro e F ⟨rfl,G⟩;rw[bi.out,be.out,AH rfl I.out];go_wp2;go_ret2;exact Eo.bad H.out I.out (bf.out (by rw[H.out];exact I.out)) G
 have I:=hid a8;have bn:Eg l:=(Jd.1 a8).1.2.2;have b5:l.length≤4:=(Jd.1 a8).1.1;clear a8;by_cases bg:20<v.size
 ·have H:Hid (ap=1):=by show _=_;rw[←ak.out];unfold Gn;rw[nB (by simpa using I.out),nC bg]
  have bF:decide (20<(v.size:Int))=true:=nE (by omega);go_enter func46,ntmps46;go_wp2_with fail
  refine(Fc a cap l m _ aa ab ad h).mono ?_;rintro e F ⟨rfl,G⟩;rw[bi.out,be.out,Cr I.out];go_wp2;go_ret2;exact Eo.bad H.out (by decide) (bf.out (by rw[H.out];decide)) G
 have bF:=nA (by omega);have ao:Hid (Fj l m=plc l m):=by show _=_;unfold Fj;rw[nC I.out]
 have V:=hid (Ng m bn);have bB:=UD l m;clear bi;cases hfd:CT l m with
 |none=>
  have az:Hid (Dr l m=false):=by show _=_;unfold Dr;rw[hfd];simp
  have T:=hid ((Pr m bn hfd).1);generalize plc l m=p at ao V bB T;have bG:(0:Int)≤(p:Int):=by omega
  have bH:(p:Int)≤(l.length:Int):=by omega
  have bY:(p:Int)≤(cap:Int):=by omega
  clear be;by_cases bb:l.length=4
  ·have H:Hid (ap=2):=by show _=_;rw[←ak.out];unfold Gn;rw[nB (by simpa using I.out),nB bg,nC ⟨hfd,bb⟩]
   have b0:((l.length:Int)==4)=true:=by rw[bb];rfl
   clear hfd T V ba bb;by_cases bd:cap=p
   ·subst bd
    go_enter func46,ntmps46;go_wp2_with fail
    refine(Fc a cap l m _ aa ab ad h).mono ?_;rintro e F ⟨rfl,G⟩;rw[ao.out,az.out,Cr I.out];go_wp2;go_ret2;exact Eo.bad H.out (by decide) (bf.out (by rw[H.out];decide)) G
   ·go_enter func46,ntmps46
    go_wp2_with fail
    refine(Fc a cap l m _ aa ab ad h).mono ?_;rintro e F ⟨rfl,G⟩;rw[ao.out,az.out,Cr I.out];go_wp2;go_ret2;exact Eo.bad H.out (by decide) (bf.out (by rw[H.out];decide)) G
  ·have H:Hid (ap=0):=by show _=_;rw[←ak.out];unfold Gn;rw[nB (by simpa using I.out),nB bg,nB (fun e=>bb e.2)]
   have b0:((l.length:Int)==4)=false:=by simp;omega
   clear hfd bb;by_cases bd:cap=p
   ·subst bd
    have bo:Hid (EE l m=[]):=by show _=_;rw[←T.out];exact n7 (by omega)
    have a1:(Da l m v).length≤1000:=by
     unfold Da;have:=nV List.length V.out;have:=nV List.length T.out;simp at*;omega
    go_enter func46,ntmps46;go_wp2_with fail
    refine(Fc a cap l m _ aa ab ad h).mono ?_;rintro e F ⟨rfl,G⟩;rw[ao.out,az.out,Cr I.out];have Q:=h.below G;go_wp2_with fail
    have J:Below w.heap.size w ((F.alloc (.cells #[.string m,.string v] 122)).alloc (.cells #[.slice a cap cap,sL F.heap.size 0 1 1,.slice a 0 0] 47)):=(G.alloc G.size _).alloc (by have:=G.size;simp;omega) _;have R:Below F.heap.size F ((F.alloc (.cells #[.string m,.string v] 122)).alloc (.cells #[.slice a cap cap,sL F.heap.size 0 1 1,.slice a 0 0] 47)):=bN.alloc (by simp) _;have Y:Fg ((F.alloc (.cells #[.string m,.string v] 122)).alloc (.cells #[.slice a cap cap,sL F.heap.size 0 1 1,.slice a 0 0] 47)) F.heap.size ⟨m,v⟩:=by
     have k:=Fg.new F ⟨m,v⟩;have hb:=(nt _ (F.alloc (.cells #[.string m,.string v] 122))).alloc (nl _) (.cells #[.slice a cap cap,sL F.heap.size 0 1 1,.slice a 0 0] 47);exact⟨(hb.cell (p:=(aD F.heap.size 0)) (by simp)).trans k.1,(hb.cell (p:=(aD F.heap.size 1)) (by simp)).trans k.2⟩
    refine(Li _ ⟨a,cap,l.take cap⟩ ⟨some (aD F.heap.size 0),1,[⟨m,v⟩]⟩ ⟨a,0,[]⟩ (Da l m v) _ ?_ a1 ?_ ?_ ?_ ?_ ?_ ?_).mono ?_
    ·show Da l m v=l.take cap++([⟨m,v⟩]++[])
     rw[V.out];unfold Da;rw[bo.out];rfl
    ·rw[show(l.take cap).length=cap by simp;omega];exact FJ _ _ _ _ _ _ rfl
    ·exact FJ _ _ _ _ _ _ rfl
    ·exact FJ _ _ _ _ _ _ rfl
    ·exact(Q.below R).take cap
    ·refine .inr ⟨F.heap.size,0,rfl,fun k x O=>?_⟩
     match k with
     |0=>simp at O;subst O;exact Y
     |j+1=>simp at O
    ·exact Or.inl rfl
    rintro e bp ⟨⟨bs,bu,rfl,g1,a6,g3⟩,Z⟩;have a7:=J.trans (Z.mono J.size);clear J R Z Y G Q;go_wp2;go_ret2;exact Eo.good H.out (ba.out H.out) g1 a6 g3 a7
   ·have bv:Hid (∀W:World,Bm W.cell? a l→Bm W.cell? (a.map (·.add (p*2))) (l.drop p)):=fun W bx=>bx.drop p
    have a1:(Da l m v).length≤1000:=by
     unfold Da;have:=nV List.length V.out;have:=nV List.length T.out;simp at*;omega
    go_enter func46,ntmps46;go_wp2_with fail
    refine(Fc a cap l m _ aa ab ad h).mono ?_;rintro e F ⟨rfl,G⟩;rw[ao.out,az.out,Cr I.out];have Q:=h.below G;go_wp2_with fail
    have J:Below w.heap.size w ((F.alloc (.cells #[.string m,.string v] 122)).alloc (.cells #[.slice a p cap,sL F.heap.size 0 1 1,.slice (a.map (·.add (p*2))) (l.length-p) (cap-p)] 47)):=(G.alloc G.size _).alloc (by have:=G.size;simp;omega) _;have R:Below F.heap.size F ((F.alloc (.cells #[.string m,.string v] 122)).alloc (.cells #[.slice a p cap,sL F.heap.size 0 1 1,.slice (a.map (·.add (p*2))) (l.length-p) (cap-p)] 47)):=bN.alloc (by simp) _;have Y:Fg ((F.alloc (.cells #[.string m,.string v] 122)).alloc (.cells #[.slice a p cap,sL F.heap.size 0 1 1,.slice (a.map (·.add (p*2))) (l.length-p) (cap-p)] 47)) F.heap.size ⟨m,v⟩:=by
     have k:=Fg.new F ⟨m,v⟩;have hb:=(nt _ (F.alloc (.cells #[.string m,.string v] 122))).alloc (nl _) (.cells #[.slice a p cap,sL F.heap.size 0 1 1,.slice (a.map (·.add (p*2))) (l.length-p) (cap-p)] 47);exact⟨(hb.cell (p:=(aD F.heap.size 0)) (by simp)).trans k.1,(hb.cell (p:=(aD F.heap.size 1)) (by simp)).trans k.2⟩
    refine(Li _ ⟨a,cap,l.take p⟩ ⟨some (aD F.heap.size 0),1,[⟨m,v⟩]⟩ ⟨a.map (·.add (p*2)),cap-p,l.drop p⟩ (Da l m v) _ ?_ a1 ?_ ?_ ?_ ?_ ?_ ?_).mono ?_
    ·show Da l m v=l.take p++([⟨m,v⟩]++l.drop p)
     rw[V.out,T.out];rfl
    ·rw[show(l.take p).length=p by simp;omega];exact FJ _ _ _ _ _ _ rfl
    ·exact FJ _ _ _ _ _ _ rfl
    ·rw[show(l.drop p).length=l.length-p by simp];exact FJ _ _ _ _ _ _ rfl
    ·exact(Q.below R).take p
    ·refine .inr ⟨F.heap.size,0,rfl,fun k x O=>?_⟩
     match k with
     |0=>simp at O;subst O;exact Y
     |j+1=>simp at O
    ·exact bv.out _ (Q.below R)
    rintro e bp ⟨⟨bs,bu,rfl,g1,a6,g3⟩,Z⟩;have a7:=J.trans (Z.mono J.size);clear J R Z Y G Q;go_wp2;go_ret2;exact Eo.good H.out (ba.out H.out) g1 a6 g3 a7
 |some x=>
  have az:Hid (Dr l m=true):=by show _=_;unfold Dr;rw[hfd,nE I.out];rfl
  obtain⟨hx,bC⟩:=LL m bn hfd;have T:=hid bC;have b1:=(nw.1 hx).1;have H:Hid (ap=0):=by show _=_;rw[←ak.out];unfold Gn;rw[nB (by simpa using I.out),nB bg,nB (fun e=>by rw[hfd]at e;cases e.1)]
  clear bC hx;generalize plc l m=p at ao V bB T b1;have bG:(0:Int)≤(p:Int):=by omega
  have bH:(p:Int)≤(l.length:Int):=by omega
  have bY:(p:Int)≤(cap:Int):=by omega
  have b6:(p:Int)+1≤(l.length:Int):=by omega
  have b7:¬cap=p:=by omega
  clear be hfd;by_cases bd:cap=p+1
  ·subst bd
   have bo:Hid (EE l m=[]):=by show _=_;rw[←T.out];exact n7 (by omega)
   have a1:(Da l m v).length≤1000:=by
    unfold Da;have:=nV List.length V.out;have:=nV List.length T.out;simp at*;omega
   go_enter func46,ntmps46;go_wp2_with fail
   refine(Fc a (p+1) l m _ aa ab ad h).mono ?_;rintro e F ⟨rfl,G⟩;rw[ao.out,az.out,Cr I.out];have Q:=h.below G;go_wp2_with fail
   have J:Below w.heap.size w ((F.alloc (.cells #[.string m,.string v] 122)).alloc (.cells #[.slice a p (p+1),sL F.heap.size 0 1 1,.slice a 0 0] 47)):=(G.alloc G.size _).alloc (by have:=G.size;simp;omega) _;have R:Below F.heap.size F ((F.alloc (.cells #[.string m,.string v] 122)).alloc (.cells #[.slice a p (p+1),sL F.heap.size 0 1 1,.slice a 0 0] 47)):=bN.alloc (by simp) _;have Y:Fg ((F.alloc (.cells #[.string m,.string v] 122)).alloc (.cells #[.slice a p (p+1),sL F.heap.size 0 1 1,.slice a 0 0] 47)) F.heap.size ⟨m,v⟩:=by
    have k:=Fg.new F ⟨m,v⟩;have hb:=(nt _ (F.alloc (.cells #[.string m,.string v] 122))).alloc (nl _) (.cells #[.slice a p (p+1),sL F.heap.size 0 1 1,.slice a 0 0] 47);exact⟨(hb.cell (p:=(aD F.heap.size 0)) (by simp)).trans k.1,(hb.cell (p:=(aD F.heap.size 1)) (by simp)).trans k.2⟩
   refine(Li _ ⟨a,(p+1),l.take p⟩ ⟨some (aD F.heap.size 0),1,[⟨m,v⟩]⟩ ⟨a,0,[]⟩ (Da l m v) _ ?_ a1 ?_ ?_ ?_ ?_ ?_ ?_).mono ?_
   ·show Da l m v=l.take p++([⟨m,v⟩]++[])
    rw[V.out];unfold Da;rw[bo.out];rfl
   ·rw[show(l.take p).length=p by simp;omega];exact FJ _ _ _ _ _ _ rfl
   ·exact FJ _ _ _ _ _ _ rfl
   ·exact FJ _ _ _ _ _ _ rfl
   ·exact(Q.below R).take p
   ·refine .inr ⟨F.heap.size,0,rfl,fun k x O=>?_⟩
    match k with
    |0=>simp at O;subst O;exact Y
    |j+1=>simp at O
   ·exact Or.inl rfl
   rintro e bp ⟨⟨bs,bu,rfl,g1,a6,g3⟩,Z⟩;have a7:=J.trans (Z.mono J.size);clear J R Z Y G Q;go_wp2;go_ret2;exact Eo.good H.out (ba.out H.out) g1 a6 g3 a7
  ·have bv:Hid (∀W:World,Bm W.cell? a l→Bm W.cell? (a.map (·.add ((p+1)*2))) (l.drop (p+1))):=fun W bx=>bx.drop (p+1)
   have a1:(Da l m v).length≤1000:=by
    unfold Da;have:=nV List.length V.out;have:=nV List.length T.out;simp at*;omega
   go_enter func46,ntmps46;go_wp2_with fail
   refine(Fc a cap l m _ aa ab ad h).mono ?_;rintro e F ⟨rfl,G⟩;rw[ao.out,az.out,Cr I.out];have Q:=h.below G;go_wp2_with fail
   have J:Below w.heap.size w ((F.alloc (.cells #[.string m,.string v] 122)).alloc (.cells #[.slice a p cap,sL F.heap.size 0 1 1,.slice (a.map (·.add ((p+1)*2))) (l.length-(p+1)) (cap-(p+1))] 47)):=(G.alloc G.size _).alloc (by have:=G.size;simp;omega) _;have R:Below F.heap.size F ((F.alloc (.cells #[.string m,.string v] 122)).alloc (.cells #[.slice a p cap,sL F.heap.size 0 1 1,.slice (a.map (·.add ((p+1)*2))) (l.length-(p+1)) (cap-(p+1))] 47)):=bN.alloc (by simp) _;have Y:Fg ((F.alloc (.cells #[.string m,.string v] 122)).alloc (.cells #[.slice a p cap,sL F.heap.size 0 1 1,.slice (a.map (·.add ((p+1)*2))) (l.length-(p+1)) (cap-(p+1))] 47)) F.heap.size ⟨m,v⟩:=by
    have k:=Fg.new F ⟨m,v⟩;have hb:=(nt _ (F.alloc (.cells #[.string m,.string v] 122))).alloc (nl _) (.cells #[.slice a p cap,sL F.heap.size 0 1 1,.slice (a.map (·.add ((p+1)*2))) (l.length-(p+1)) (cap-(p+1))] 47);exact⟨(hb.cell (p:=(aD F.heap.size 0)) (by simp)).trans k.1,(hb.cell (p:=(aD F.heap.size 1)) (by simp)).trans k.2⟩
   refine(Li _ ⟨a,cap,l.take p⟩ ⟨some (aD F.heap.size 0),1,[⟨m,v⟩]⟩ ⟨a.map (·.add ((p+1)*2)),cap-(p+1),l.drop (p+1)⟩ (Da l m v) _ ?_ a1 ?_ ?_ ?_ ?_ ?_ ?_).mono ?_
   ·show Da l m v=l.take p++([⟨m,v⟩]++l.drop (p+1))
    rw[V.out,T.out];rfl
   ·rw[show(l.take p).length=p by simp;omega];exact FJ _ _ _ _ _ _ rfl
   ·exact FJ _ _ _ _ _ _ rfl
   ·rw[show(l.drop (p+1)).length=l.length-(p+1) by simp];exact FJ _ _ _ _ _ _ rfl
   ·exact(Q.below R).take p
   ·refine .inr ⟨F.heap.size,0,rfl,fun k x O=>?_⟩
    match k with
    |0=>simp at O;subst O;exact Y
    |j+1=>simp at O
   ·exact bv.out _ (Q.below R)
   rintro e bp ⟨⟨bs,bu,rfl,g1,a6,g3⟩,Z⟩;have a7:=J.trans (Z.mono J.size);clear J R Z Y G Q;go_wp2;go_ret2;exact Eo.good H.out (ba.out H.out) g1 a6 g3 a7
theorem XW(a:Option Addr)(cap:Nat)(l:List Kv)(m:BA)(w:World)(ad:l.length≤1000)(bA:l.length≤cap)(bB:cap≤9223372036854775807)(ak:EM l)(ao:m.size≤1000)(h:Bm w.cell? a l):
 Calls prog 48 #[.slice a l.length cap,.string m] w fun e w'=>Eo w w' e (GM l m) (Hb l m):=by
 obtain⟨P,ba⟩:=A3 (Fj l m);obtain⟨bC,ap⟩:=A3 (Dr l m);obtain⟨bb,az⟩:=A3 (GM l m);obtain⟨O,J⟩:=A3 (Hb l m);rw[az.out,J.out];have bd:Hid (O≠0→bb=[]):=fun a1=>by rw[←az.out];unfold GM;rw[nC (by rw[J.out];exact a1)]
 have be:Hid (O=0→bb=EK l m):=fun a1=>by rw[←az.out];unfold GM;rw[nB (by rw[J.out];simpa using a1)]
 by_cases Q:CS l m=0;rotate_left
 ·have F:Hid (CS l m≠0):=Q
  have G:Hid (O=CS l m):=by show _=_;rw[←J.out];unfold Hb;rw[nC F.out]
  clear Q;go_enter func48,ntmps48;go_wp2_with fail
  refine(Fc a cap l m _ ad ak ao h).mono ?_;rintro e I ⟨rfl,H⟩;rw[ba.out,ap.out,AH rfl F.out];go_wp2;go_ret2;exact Eo.bad G.out F.out (bd.out (by rw[G.out];exact F.out)) H
 have F:=hid Q;have bf:Eg l:=(Jd.1 Q).1.2.2;clear Q;have Z:Hid (Fj l m=plc l m):=by show _=_;unfold Fj;rw[nC F.out]
 have R:=hid (Ng m bf);clear ba;cases hfd:CT l m with
 |none=>
  have a6:Hid (Dr l m=false):=by show _=_;unfold Dr;rw[hfd];simp
  have G:Hid (O=5):=by show _=_;rw[←J.out];unfold Hb;rw[nB (by simpa using F.out),nC hfd]
  clear ap hfd R be;generalize plc l m=p at Z;go_enter func48,ntmps48;go_wp2_with fail
  refine(Fc a cap l m _ ad ak ao h).mono ?_;rintro e I ⟨rfl,H⟩;rw[Z.out,a6.out,Cr F.out];go_wp2;go_ret2;exact Eo.bad G.out (by decide) (bd.out (by rw[G.out];decide)) H
 |some x=>
  have a6:Hid (Dr l m=true):=by show _=_;unfold Dr;rw[hfd,nE F.out];rfl
  obtain⟨hx,bg⟩:=LL m bf hfd;have aa:=hid bg;have bn:=(nw.1 hx).1;have G:Hid (O=0):=by show _=_;rw[←J.out];unfold Hb;rw[nB (by simpa using F.out),nB (by rw[hfd];simp)]
  clear bg hx;generalize plc l m=p at Z R aa bn;have bF:(0:Int)≤(p:Int):=by omega
  have bG:(p:Int)≤(l.length:Int):=by omega
  have bH:(p:Int)≤(cap:Int):=by omega
  have bY:(p:Int)+1≤(l.length:Int):=by omega
  have b0:(0:Int)≤(p:Int)+1:=by omega
  have b1:IntKind.i64.wrap ((p:Int)+1)=(p:Int)+1:=Ez (by omega) (by omega);have bo:Hid ((EK l m).length≤1000):=by
   show _≤_;unfold EK;have:=nV List.length R.out;have:=nV List.length aa.out;simp at*;omega
  have bi:(l.take p).length=p:=by simp;omega
  clear ap hfd;have bk:Hid (∀(W:World) (T:Nat),Bm W.cell? a l→Ce W T 0 (.slice a p cap)→Ce W T 1 (.slice (if cap=p+1 then a else a.map (·.add ((p+1)*2))) (l.length-(p+1)) (cap-(p+1)))→cL 98 #[sL T 0 2 2] W fun e w'=>(∃a7 ab,e=.returned (.slice a7 (EK l m).length ab)∧(EK l m).length≤ab∧ab≤9223372036854775807∧Bm w'.cell? a7 (EK l m))∧Below W.heap.size W w'):=by
   intro W T bl bp bs;have V:Bm W.cell? (if cap=p+1 then a else a.map (·.add ((p+1)*2))) (l.drop (p+1)):=by
    split
    ·exact Bm.none (by simp;omega)
    ·exact bl.drop (p+1)
   exact Y1 T ⟨a,cap,l.take p⟩ ⟨if cap=p+1 then a else a.map (·.add ((p+1)*2)),cap-(p+1),l.drop (p+1)⟩ (EK l m) W (by show EK l m=l.take p++l.drop (p+1);rw[R.out,aa.out];rfl) bo.out (by rw[bi];exact bp) (by rw[show(l.drop (p+1)).length=l.length-(p+1) by simp];exact bs) (bl.take p) V
  clear R aa bi;go_enter func48,ntmps48;go_wp2_with fail
  refine(Fc a cap l m _ ad ak ao h).mono ?_;rintro e I ⟨rfl,H⟩;rw[Z.out,a6.out,Cr F.out];have bu:=h.below H;have c0:Ce (I.drew.alloc (.cells #[.slice a p cap,.slice (if cap=p+1 then a else a.map (·.add ((p+1)*2))) (l.length-(p+1)) (cap-(p+1))] 47)) I.heap.size 0 (.slice a p cap):=aC;have c1:Ce (I.drew.alloc (.cells #[.slice a p cap,.slice (if cap=p+1 then a else a.map (·.add ((p+1)*2))) (l.length-(p+1)) (cap-(p+1))] 47)) I.heap.size 1 (.slice (if cap=p+1 then a else a.map (·.add ((p+1)*2))) (l.length-(p+1)) (cap-(p+1))):=aC;have Y:Below w.heap.size w (I.drew.alloc (.cells #[.slice a p cap,.slice (if cap=p+1 then a else a.map (·.add ((p+1)*2))) (l.length-(p+1)) (cap-(p+1))] 47)):=(rz H 1).alloc H.size _;have V:=h.below Y;go_wp2_with fail
  go_region_held3 (fun _=>True) (trivial) (first|(go_at_call 98;refine(bk.out _ _ V c0 c1).mono ?_;rintro e b2 ⟨⟨a7,ab,rfl,g1,bv,g3⟩,a8⟩;generalize(if cap=p+1 then a else a.map (·.add ((p+1)*2)))=b3 at V c0 c1 Y a8⊢))
  all_goals
   have bx:=Y.trans (a8.mono Y.size);clear Y a8 H bu V c0 c1 bk
   go_wp2;go_ret2;exact Eo.good G.out (be.out G.out) g1 bv g3 bx
end Go.Proofs.YtgppjbhaimmlpaaGreatDoor
namespace Go.Proofs.YtgppjbhaimmlpaaGreatDoor
open Go.RowKit Go.Proofs.Tryz
theorem WY{s:BA}(h:CW s≠0):s.size≤255:=by
 have F:G3 (s.data.toList.drop 2)=true:=by
  by_cases e:G3 (s.data.toList.drop 2)=true
  ·exact e
  ·exact absurd (by unfold CW IM;rw[nB e]) h
 unfold G3 at F;simp only[Bool.and_eq_true,r5]at F;have:=F.1.1.1.2;rw[List.length_drop]at this;show s.data.size≤255;rw[←Array.length_toList];omega
theorem Hc.low{l:List Kv}(h:Hc l):l.length≤255∧EM l:=⟨by have:=h.1;omega,fun x hx=>⟨WY (h.2.1 x hx).1,by have:=(h.2.1 x hx).2;omega⟩⟩
theorem S0:([]:List Kv).length≤255∧EM []:=⟨nM _,fun _ hx=>by cases hx⟩
theorem YE{l:List Kv}{m v:BA}:(GH l m v).length≤255∧EM (GH l m v):=by
 unfold GH;split
 ·exact S0
 ·exact(YW (Decidable.not_not.1 ‹_›)).2.2.low
theorem Zf{l:List Kv}{m:BA}:(GM l m).length≤255∧EM (GM l m):=by
 unfold GM;split
 ·exact S0
 ·exact(ZW (Decidable.not_not.1 ‹_›)).2.2.low
def OW(w:World)(I:Value):Prop:=∃gf lb,I=.func (.func gf) #[] lb∧(∀args w,(callFunc gf args).run prog w=.ok (.enter gf args) w)∧
 ∀(W:World) (a:Option Addr) (l:List Kv) (cap:Nat),Bw w W→l.length≤255→EM l→(l.length≤cap∧cap≤9223372036854775807)→Bm W.cell? a l→
  Calls prog gf (#[.slice a l.length cap]++lb) W fun e G=>(∃H L F J,e=.returned (.tuple #[.slice H L.length F,Am J])∧(L.length≤F∧F≤9223372036854775807)∧Bm G.cell? H L∧L.length≤255∧EM L)∧Bw W G
theorem Zt{w:World}{F:Nat}{m v:BA}(O:m.size≤1000)(Q:w.cell? ⟨F,3,none⟩=some (.string m))(R:w.cell? ⟨F,4,none⟩=some (.string v)):OW w (.func (.func 45) #[] #[.pointer (some ⟨F,0,none⟩)]):=by
 refine⟨_,_,rfl,fun args w=>by kernel_rfl,fun W a l cap H ao T I V=>?_⟩;have a8:=Ad H Q;have ba:=Ad H R;have G:=hid (Zy a cap l m v W (by omega) I.1 I.2 T O V);have Y:Hid ((GH l m v).length≤255∧EM (GH l m v)):=YE;generalize GH l m v=Z at G Y;generalize Gn l m v=ap at G;clear Q R T I V ao O H;show Calls prog 45 #[.slice a l.length cap,.pointer (some ⟨F,0,none⟩)] W _;go_enter func45,ntmps45;go_wp2_with fail
 refine nn G.out ?_;rintro e bb ⟨⟨az,J,rfl,aa,ab,ad⟩,ak⟩;have a1:Hid (Z.length≤J∧J≤9223372036854775807):=⟨aa,ab⟩;have a6:=hid ad;have a7:=hid ak;clear aa ab ad ak G;go_wp2;go_ret2;exact⟨⟨az,Z,J,ap,rfl,a1.out,a6.out,Y.out⟩,a7.out⟩
theorem ZG{w:World}{G:Nat}{m:BA}(J:m.size≤1000)(O:w.cell? ⟨G,3,none⟩=some (.string m)):OW w (.func (.func 47) #[] #[.pointer (some ⟨G,0,none⟩)]):=by
 refine⟨_,_,rfl,fun args w=>by kernel_rfl,fun W a l cap Q ak R H T=>?_⟩;have a7:=Ad Q O;have F:=hid (XW a cap l m W (by omega) H.1 H.2 R J T);have V:Hid ((GM l m).length≤255∧EM (GM l m)):=Zf;generalize GM l m=Y at F V;generalize Hb l m=ao at F;clear O R H T ak J Q;show Calls prog 47 #[.slice a l.length cap,.pointer (some ⟨G,0,none⟩)] W _;go_enter func47,ntmps47;go_wp2_with fail
 refine nn F.out ?_;rintro e a8 ⟨⟨ap,I,rfl,Z,aa,ab⟩,ad⟩;have az:Hid (Y.length≤I∧I≤9223372036854775807):=⟨Z,aa⟩;have a1:=hid ab;have a6:=hid ad;clear Z aa ab ad F;go_wp2;go_ret2;exact⟨⟨ap,Y,I,ao,rfl,az.out,a1.out,V.out⟩,a6.out⟩
theorem As.set5b{w:World}{b:Nat}{k m u g:Int}{o:Bool}{nh:List Kv}{d:BA}{ks:At}{h:Hd}(G:As w b (.mk k m u g o nh d ks) h)(F:Option Addr)(l:List Kv)(ca:Nat):As (w.setCell ⟨b,5,none⟩ (.slice F l.length ca)) b (.mk k m u g o l d ks) ⟨F,ca,h.ak,h.ck⟩:=by
 obtain⟨⟨H,I,J,O,Q,R,T,V⟩,Y⟩:=G;exact⟨⟨(AA (by omega)).trans H,(AA (by omega)).trans I,(AA (by omega)).trans J,(AA (by omega)).trans O,(AA (by omega)).trans Q,nH _ _ _ R,(AA (by omega)).trans T,(AA (by omega)).trans V⟩,fun j=>by rw[rJ];exact Y j⟩
theorem YB{c:AJ}{k m u g:Int}{o:Bool}{nh l:List Kv}{d:BA}{ks:At}{h:Hd}{a:Option Addr}{cap:Nat}(F:Ah c (.mk k m u g o nh d ks) h)(G:Bm c a l)(H:l.length≤cap∧cap≤9223372036854775807):Ah c (.mk k m u g o l d ks) ⟨a,cap,h.ak,h.ck⟩:=Cj.2 ⟨G,H,(Cj.1 F).2.2⟩
theorem VD{w:World}{us gs:List Rg}{I:Nat}{G:Option Addr}{L:List Kv}{F:Nat}(c0:w.cell? ⟨I,0,none⟩=some (.slice G L.length F))(T:Bm w.cell? G L)(V:L.length≤F∧F≤9223372036854775807)(J:L.length≤255∧EM L):
 Jq w us gs (.func (.func 97) #[] #[.pointer (some ⟨I,0,none⟩)]):=by
 refine⟨_,_,rfl,fun args w=>by kernel_rfl,fun W nx x Y O ba H Z aa Q ab=>?_⟩;have bb:=Ad O c0;obtain⟨k,m,u,g,o,nh,d,ks⟩:=x;obtain⟨⟨ak,ao,ap,az,a1,bd,a6,a7⟩,ad⟩:=id H;have be:=ad 5;have R:Au nx W (W.setCell ⟨nx,5,none⟩ (.slice G L.length F)):=(Au.refl nx W).setCell 5 none _;have a8:Hid (∃y h',As (W.setCell ⟨nx,5,none⟩ (.slice G L.length F)) nx y h'∧Ah (W.setCell ⟨nx,5,none⟩ (.slice G L.length F)).cell? y h'∧Fa us gs (.mk k m u g o nh d ks) y∧(AB y∧AM y∧cnt y≤cnt (.mk k m u g o nh d ks))∧Au nx W (W.setCell ⟨nx,5,none⟩ (.slice G L.length F))):=⟨.mk k m u g o L d ks,⟨G,F,Y.ak,Y.ck⟩,H.set5b G L F,Kf R H.1 Z (YB aa (T.on (Aj O)) V),Fa.mk' (.inr ⟨rfl,rfl⟩),⟨by rw[AB]at Q⊢;exact⟨⟨J.1,J.2⟩,Q.2⟩,MU ab,KG⟩,R⟩;clear c0 T V J O H Z aa Q ab R ad ak ao ap az a1 a6 a7;show Calls prog 97 #[.pointer (some ⟨nx,0,none⟩),.pointer (some ⟨I,0,none⟩)] W _;go_enter func97,ntmps97;go_wp2;go_end0
 exact⟨⟨_,rfl⟩,a8.out⟩
theorem Pg{w:World}{b:Nat}{B:Bx}{x0:Nd}{ni:List Nd}(h:A5 w b B)(ao:BS B x0 ni){H I J:Int}{F O G Q:BA}(bp:Int)(bs:w.cell? ⟨0,0,none⟩=some (.int .i64 bp))(cg:G.size≤1000){bu:Value}(ch:OW w bu):
 Calls prog 44 #[.pointer (some ⟨b,0,none⟩),.agg #[.int .i64 H,.string F,.string O,.string G,.string Q,.int .i64 I,.int .i64 J],bu] w fun e w'=>(∃E,e=.returned (Am E))∧BI w w' b B ni:=by
 obtain⟨gf,lb,rfl,dd,bv⟩:=ch;have bx:Hid _:=bv;have Y:Bw w (w.alloc (Ax H F O G Q I J)):=(nt _ _).alloc (nl _) _;have ap:=hid Y;have cl:Ce (w.alloc (Ax H F O G Q I J)) w.heap.size 0 (.int .i64 H):=nk _ _ _ _ rfl;have co:Ce (w.alloc (Ax H F O G Q I J)) w.heap.size 1 (.string F):=nk _ _ _ _ rfl;have cp:Ce (w.alloc (Ax H F O G Q I J)) w.heap.size 2 (.string O):=nk _ _ _ _ rfl;have cq:Ce (w.alloc (Ax H F O G Q I J)) w.heap.size 3 (.string G):=nk _ _ _ _ rfl;have cr:Ce (w.alloc (Ax H F O G Q I J)) w.heap.size 4 (.string Q):=nk _ _ _ _ rfl;have cu:Ce (w.alloc (Ax H F O G Q I J)) w.heap.size 5 (.int .i64 I):=nk _ _ _ _ rfl;have cx:Ce (w.alloc (Ax H F O G Q I J)) w.heap.size 6 (.int .i64 J):=nk _ _ _ _ rfl;have bA:Hid (Calls prog 36 #[.pointer (some ⟨b,0,none⟩),El H F O G Q I J,.int .i64 2] (w.alloc (Ax H F O G Q I J)) fun e w'=>CC B w' F true e∧Bw (w.alloc (Ax H F O G Q I J)) w'):=Ph (h.below Y) ao 2 bp (Ad Y bs) cg;have bB:=hid h;have az:=hid ao;have bC:Hid (∀w',Bw w w'→BI w w' b B ni):=fun w' hb=>⟨Au.of_below hb,B,x0,bB.out.below hb,az.out,rfl,rfl⟩;clear h ao Y bs bv
 go_enter func44,ntmps44;go_wp2_with fail
 generalize(w.alloc (Ax H F O G Q I J))=de at*;refine nn bA.out ?_;rintro e Z ⟨cA,q2⟩;clear bA cl co cp cq cr cu cx;obtain⟨cs,E,rfl,a1,bF,bG⟩:=cA;obtain⟨a6,dg,a7,a8,cB⟩:=FV Z cs a1 bF;have c3:=BT cs;unfold Value.cells at c3;have dj:=hid a1;have c4:=hid (q2.trans (a8.out.mono q2.size));have aa:=hid (ap.out.trans (c4.out.mono ap.out.size));have bH:Hid _:=bG;have dk:=hid (nO ap.out.size q2.size);clear bF bG a1;by_cases bY:E=0
 ·subst bY
  obtain⟨f,ba,b0,bb,bd,be,ab,bf⟩:=bH.out rfl;clear bH;have R:=Fu b0;rw[←bb]at R;obtain⟨t,dir,na,nc,nf,dm,⟨dn,dp,dr,ds,du,b1,dw,xs⟩,ad,ly⟩:=f;dsimp only at bb bd be ab bf R;have b2:Ce a6 Z.heap.size 10 (.slice na nf.length nc):=a7.out 10 _ (by rw[ba];rfl);have c5:Ce a6 Z.heap.size 17 (.slice ad.aa b1.length ad.ca):=a7.out 17 _ (by rw[ba];rfl);have c6:=hid (bd.on (Aj a8.out));have b3:Hid ((∀s∈nf,AQ s=true)∧nf.length≤6):=⟨R.1,R.2.1⟩;have c8:=hid be;have bg:=Kc az.out ab (bf rfl);have bi:=ab.nd.on (Aj a8.out);have b4:=hid (bx.out a6 ad.aa b1 ad.ca aa.out bg.1 bg.2 (Cj.1 bi).2.1 (Cj.1 bi).1);rw[show Am 0=Value.nilIface from rfl];clear ba b0 bb bd be ab bf R cB a7 bx bg bi;go_wp2_with fail
  refine nn b4.out ?_;rintro e bk ⟨⟨b5,L,b6,bl,rfl,b7,b9,cb⟩,T⟩;have c9:Ce (bk.alloc (.cells #[.slice b5 L.length b6] 47)) Z.heap.size 10 (.slice na nf.length nc):=Ay (Ad T b2);have ak:Bw bk (bk.alloc (.cells #[.slice b5 L.length b6] 47)):=(nt _ _).alloc (nl _) _;have bn:=hid (aa.out.trans ((T.trans (ak.mono T.size)).mono aa.out.size));have da:=hid ((c6.out.on (Aj T)).on (Aj ak));have bo:=hid (JM (bB.out.below bn.out) az.out da.out b3.out.1 (by have:=b3.out.2;omega) c8.out rfl (VD (nk _ _ _ _ rfl) (b9.on (Aj ak)) b7 cb));clear b4 T b2 c5 b7 b9 cb ak;by_cases hF:bl=0
  ·subst hF
   rw[show Am 0=Value.nilIface from rfl];go_wp2_with fail
   refine nn bo.out ?_;rintro e dx ⟨⟨E,rfl⟩,cf⟩;have db:=hid (cf.up bn.out);clear cf bo;go_wp2;go_ret;exact⟨⟨E,rfl⟩,db.out⟩
  ·have V:=AH (n:=bl) rfl hF
   rw[V];clear c9 bo;go_wp2;go_ret;exact⟨⟨bl,by rw[V];rfl⟩,bC.out _ bn.out⟩
 ·have V:=AH (n:=E) rfl bY
  rw[V];go_wp2;go_ret;exact⟨⟨E,by rw[V];rfl⟩,bC.out _ aa.out⟩
theorem Wu{w:World}{b:Nat}{B:Bx}{x0:Nd}{ni:List Nd}(h:A5 w b B)(H:BS B x0 ni):
 Calls prog 9 #[.pointer (some ⟨b,0,none⟩)] w fun e w'=>(∃h',e=.returned (Ao x0 h')∧Ah w'.cell? x0 h')∧Bw w w':=by
 have O:Bw w (w.alloc AO):=(nt _ _).alloc (nl _) _;have Q:=h.below O;have R:=Q.lay;have T:=Q.cells.2.2.1;rw[H.xs]at R T;have ab:=hid (Gy T R);have ad:=As.zero w;have ak:∀o,8≤o→(w.alloc AO).cell? ⟨w.heap.size,o,none⟩=none:=fun o bg=>by
  rw[nk _ _ _ _ rfl];exact rG (by simpa using bg)
 have bi:Hid (BV (w.alloc AO) w.heap.size):=⟨ad,ak⟩;have ao:=hid O;have V:Hid (AB x0∧cnt x0≤60):=⟨H.fine.lil,H.fine.cnt⟩;clear h H Q R T ad ak O;go_enter func9,ntmps9;go_wp2_with fail
 generalize(w.alloc AO)=bY at*;refine nn ab.out ?_;rintro e Y ⟨⟨ap,rfl,_,az⟩,q2⟩;have a1:Hid (Calls prog 15 #[Ao x0 ap] Y fun e a6=>(∃h',e=.returned (Ao x0 h')∧Ah a6.cell? x0 h')∧Bw Y a6):=by
  have e:=Hv (W:=Y) (S:=fun _=>false) (fun _ bk=>(by cases bk)) (x:=x0) (h:=ap) (by rw[C4];exact az) (GB x0 (by have:=V.out.2;omega) V.out.1) (by have:=V.out.2;omega);refine nn e ?_;rintro e w' ⟨⟨h',bl,a7⟩,bn⟩;rw[C4]at a7;exact⟨⟨h',bl,a7⟩,bn⟩
 have bo:=hid (bi.out.below q2);have Z:=hid (ao.out.trans (q2.mono ao.out.size));clear ab az q2;go_wp2_with fail
 refine nn a1.out ?_;rintro e bp ⟨⟨G,rfl,a8⟩,I⟩;have z3:=bo.out.below I;obtain⟨aa,ba,bb,bs⟩:=z3.store a8;have bd:=hid ba;have be:=hid ((Z.out.trans (I.mono Z.out.size)).trans (bb.below (nl _) (nO Z.out.size I.size)));obtain⟨k,m,u,g,o,nh,d,ks⟩:=x0;obtain⟨bf,J⟩:∃bf,Ar bp w.heap.size (.mk k m u g o nh d ks) G=bf:=⟨_,rfl⟩;rw[J]at aa bd be;simp only[Ar]at J;obtain⟨⟨z0,b0,b1,z4,z5,b2,b3,b4⟩,F⟩:=z3.1;have b5:=F 0;have b6:=F 1;have b7:=F 2;have b9:=F 3;have cb:=F 4;have cf:=F 5;have cg:=F 6;have ch:=F 7;obtain⟨bu,bv,bx,bA,bB,bC,bF,bG⟩:=aa.1;have bH:Hid _:=J;rw[show Ao (.mk k m u g o nh d ks) G=(AY k m u g o nh d ks G)from rfl];clear a1 a8 I z3 ba bb bs aa F J;go_wp2;rw[bH.out];refine nF (v:=Ao (.mk k m u g o nh d ks) G) (by simp[results,results9,go_sem,Ao,bu,bv,bx,bA,bB,bC,bF,bG]) rfl ⟨⟨G,rfl,bd.out⟩,be.out⟩
end Go.Proofs.YtgppjbhaimmlpaaGreatDoor
