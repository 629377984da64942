/-
  TopQuota: Oj Ok Ol On Om.
-/
import Derived.Test.YtofhphibahcniaaGreatDoorOcX
import Derived.Test.YtofhphibahcniaaGreatDoorYnX
import Derived.Test.YtofhphibahcniaaGreatDoorYzX
import Derived.Test.YtofhphibahcniaaGreatDoorWoX
import Derived.Test.YtofhphibahcniaaGreatDoorYmX
import Derived.Test.YtofhphibahcniaaGreatDoorVdX
set_option maxRecDepth 100000
set_option maxHeartbeats 16000000
namespace Go.Proofs.YtofhphibahcniaaGreatDoor
open Go.RowKit Go.Proofs.Tryz
def GA(l:List Int):List Value:=l.map (fun z=>.int .i64 z)
structure CI (W wr:World) (u g k:Int) (A:List Int) (va:Value):Prop where
 b:BX wr W.heap.size [.int .i64 u,.int .i64 g,va,.int .i64 k]
 row:wr.ownsRow (W.heap.size+1) 3 1 va A.length (GA A)
 bel:Below W.heap.size W wr
theorem CI.below{W wr w':World}{u g k:Int}{A:List Int}{F:Value}(h:CI W wr u g k A F)(hb:Bw wr w'):CI W w' u g k A F:=
 ⟨h.b.below hb,Fp h.row hb,h.bel.trans (hb.mono h.bel.size)⟩
theorem CI.app{W wr w':World}{u g k:Int}{A:List Int}{G F:Value}(h:CI W wr u g k A G)(H:Obj)(J:(wr.alloc H).grownBy w' G.ownBlock)(z:Int)(O:w'.ownsRow (W.heap.size+1) 3 1 F (A.length+1) (GA A++GA [z])):CI W (w'.setCell ⟨W.heap.size,2,none⟩ F) u g k (A++[z]) F:=by
 have I:Below wr.heap.size wr (wr.alloc H):=(nv _ _).alloc (nn _) _;have Q:∀c,c≤W.heap.size→some c≠G.ownBlock:=fun c T e=>by have:=(h.row.lt c e.symm).1;omega
 refine⟨((h.b.below I).grown J (Q _ (nn _))).set 2 (by simp) F,?_,?_⟩
 ·rw[nM,GA,rA]
  exact ownsRow_setCell_below O (by show W.heap.size<W.heap.size+1;omega) _
 ·have q1:=h.bel.size
  have R:W.heap.size≤(wr.alloc H).heap.size:=nP q1 I.size;have e:=(h.bel.trans (I.mono q1)).grown J R (fun c e=>nP (Nat.le_succ _) ((h.row.lt c e).1));exact e.setCell (nn _) _
theorem CI.again{W wr:World}{u g k:Int}{A:List Int}{F:Value}(h:CI W wr u g k A F):CI W ((((wr.setCell ⟨W.heap.size,0,none⟩ (.int .i64 u)).setCell ⟨W.heap.size,1,none⟩ (.int .i64 g)).setCell ⟨W.heap.size,2,none⟩ F).setCell ⟨W.heap.size,3,none⟩ (.int .i64 k)) u g k A F:=
 ⟨(((h.b.set 0 (by simp) _).set 1 (by simp) _).set 2 (by simp) _).set 3 (by simp) _,ownsRow_setCell_below (ownsRow_setCell_below (ownsRow_setCell_below (ownsRow_setCell_below h.row (Nat.lt_succ_self _) _) (Nat.lt_succ_self _) _) (Nat.lt_succ_self _) _) (Nat.lt_succ_self _) _,(((h.bel.setCell (nn _) _).setCell (nn _) _).setCell (nn _) _).setCell (nn _) _⟩
theorem eH(w:World)(z:Int)(t:TypeId):∀j u,(GA [z])[j]? =some u→(w.alloc (.cells #[.int .i64 z] t)).cell? ((⟨w.heap.size,0,none⟩:Addr).add j)=some u:=by
 intro j u F;rw[D2,nU];refine(nl _ _ _ _ rfl).trans ?_;simpa [GA]using F
theorem cz(l:List Int):∀u∈GA l,u.oneCell'=true:=by
 intro u F;obtain⟨z,_,rfl⟩:=rx.1 F;rfl
theorem WB{w:World}{u g k:Int}{cs:List Int}{t:List UInt8}(bs:0≤u∧u≤65535)(bu:0≤g∧g≤65535)(cl:0≤k∧k≤255)(co:cs.length≤100)(bv:∀z∈cs,0≤z∧z≤65535)(bx:(Dn u g k cs++t).length≤100000000):
 Calls prog 24 #[.string (A8 (Dn u g k cs++t))] w fun e w'=>∃a cap,e=.returned (.tuple #[.agg #[.int .i64 u,.int .i64 g,.slice a cs.length cap,.int .i64 k],.string (A8 t)])∧CI w w' u g k cs (.slice a cs.length cap):=by
 obtain⟨cp,cr,cu,cx,c3⟩:=DC Tryz.info3;obtain⟨ap,ar,aa⟩:=XX (k:=k) t bs bu bv bx;have R:=LL u g k cs;have ay:(A8 (Dn u g k cs++t)).data[4]? =some (b8 k):=by rw[Ib];rfl
 have G:(A8 (Dn u g k cs++t)).data[5]? =some (b8 cs.length):=by rw[Ib];rfl
 have az:(A8 (Dn u g k cs++t)).size=6+2*cs.length+t.length:=by rw[Gf,nM,R]
 have T:Hid ((A8 (Dn u g k cs++t)).extract (6+2*cs.length) (6+2*cs.length+t.length)=A8 t):=by
  have e:=Tb (Dn u g k cs++t) (6+2*cs.length);rw[nM,R,←R,List.drop_left]at e;rw[←R];exact e
 obtain⟨S,a1⟩:∃S,A8 (Dn u g k cs++t)=S:=⟨_,rfl⟩;obtain⟨a6,a7⟩:∃a6,A8 t=a6:=⟨_,rfl⟩;rw[a1]at ap ar aa ay G az T;rw[a7]at T;rw[a1,a7];obtain⟨n,a8⟩:∃n,cs.length=n:=⟨_,rfl⟩;have ab:Hid (cs.length=n):=a8;rw[a8]at aa G az T co⊢;have c4:4<S.size:=by omega
 have c5:5<S.size:=by omega
 have g4:S[4]=b8 k:=Option.some.inj ((Array.getElem?_eq_getElem c4).symm.trans ay);have c6:S[5]=b8 n:=Option.some.inj ((Array.getElem?_eq_getElem c5).symm.trans G);have ad:wrap64 ((b8 k).toNat:Int)=k:=by have:=FL k;rw[this,wrap64];omega
 have ba:wrap64 ((b8 n).toNat:Int)=n:=by have:=FL n;rw[this,wrap64];omega
 obtain⟨V,bA⟩:∃V,b8 k=V:=⟨_,rfl⟩;obtain⟨ak,bB⟩:∃ak,b8 n=ak:=⟨_,rfl⟩;rw[bA]at g4 ad;rw[bB]at c6 ba;obtain⟨m,bC⟩:∃m,t.length=m:=⟨_,rfl⟩;rw[bC]at az T;have bF:IntKind.i64.wrap (V.toNat:Int)=k:=by rw[IntKind.wrap_i64,←ad,wrap64]
 have c8:=hid bF;clear bF;have z4:(4:Int)<6+2*(n:Int)+(m:Int):=by clear ad ba;omega
 have c9:=hid ap;have da:=hid ar;have db:=hid aa;clear bC bA bB bx bv bs bu cl ay G a1 a7 a8 R ap ar aa;go_enter func24,ntmps24;go_upto_region 6 with fail
 have bb:=BX.new w [.int .i64 0,.int .i64 0,.slice none 0 0,.int .i64 0] 27;have bd:Hid (BX (w.alloc (.cells #[.int .i64 0,.int .i64 0,.slice none 0 0,.int .i64 0] 27)).drew w.heap.size [.int .i64 0,.int .i64 0,.slice none 0 0,.int .i64 0]):=bb;have ao:Hid (Below w.heap.size w (w.alloc (.cells #[.int .i64 0,.int .i64 0,.slice none 0 0,.int .i64 0] 27)).drew):=((nv _ _).alloc (nn _) _).drew;generalize dd:(w.alloc (.cells #[.int .i64 0,.int .i64 0,.slice none 0 0,.int .i64 0] 27))=dx at bd ao bb⊢;clear dd bb;go_region_law (first|(go_simp;go_at_call 41;(with_reducible refine np (c9.out _) ?_);rintro e bG ⟨rfl,q2⟩;have bH:Hid (BX bG w.heap.size [.int .i64 0,.int .i64 0,.slice none 0 0,.int .i64 0]):=bd.out.below q2;have be:Hid (Below w.heap.size w bG):=ao.out.trans (q2.mono ao.out.size);clear q2)|(go_simp;go_at_call 41;(with_reducible refine np (da.out _) ?_);rintro e bf ⟨rfl,bg⟩;have H:Hid (BX bf w.heap.size [.int .i64 0,.int .i64 0,.slice none 0 0,.int .i64 0]):=bH.out.below bg;have bY:Hid (Below w.heap.size w bf):=be.out.trans (bg.mono be.out.size);clear bg;have b0:=H.out.1 0 _ rfl;have b1:=H.out.1 1 _ rfl;have b2:=H.out.1 2 _ rfl;have b3:=H.out.1 3 _ rfl;have b4:=H.out.2 0;have b5:=H.out.2 1;have b6:=H.out.2 2;have b7:=H.out.2 3))
 all_goals
  have b9:Hid (CI w ((((bf.setCell ⟨w.heap.size,0,none⟩ (.int .i64 u)).setCell ⟨w.heap.size,1,none⟩ (.int .i64 g)).setCell ⟨w.heap.size,2,none⟩ (.slice none 0 0)).setCell ⟨w.heap.size,3,none⟩ (.int .i64 (IntKind.i64.wrap (V.toNat:Int)))) u g k [] (.slice none 0 0)):=by
   rw[show IntKind.i64.wrap (V.toNat:Int)=k from c8.out];exact⟨(((H.out.set 0 (by simp) _).set 1 (by simp) _).set 2 (by simp) _).set 3 (by simp) _,rB _ _ _ _,(((bY.out.setCell (nn _) _).setCell (nn _) _).setCell (nn _) _).setCell (nn _) _⟩
  clear b0 b1 b2 b3 b4 b5 b6 b7;go_wp2;go_loopw [5] (fun i wr=>∃(j:Nat) (cb:Value),i=.int .i64 (6+2*(j:Int))∧j≤n∧CI w wr u g k (cs.take j) cb) (fun i _=>6+2*n-(intOf i).toNat)
  case atStart=>exact⟨0,_,rfl,nN _,b9.out⟩
  case round=>
   obtain⟨j,cb,rfl,dy,cd⟩:=hrel;have F:=hid cd;clear cd b9 H bY bH be bd ao;by_cases cf:j<n
   ·obtain⟨z,bi⟩:∃z,cs.getD j 0=z:=⟨_,rfl⟩
    have de:Hid (cs.take (j+1)=cs.take j++[z]):=by
     show _=_;rw[rv,←bi,List.getD_eq_getElem?_getD,nt (by rw[ab.out];exact cf)];rfl
    have dg:Hid (∀w',Calls prog 41 #[.string S,.int .i64 (6+2*(j:Int))] w' fun e dj=>e=.returned (.int .i64 z)∧Bw w' dj):=fun w'=>by have q:=db.out j w' cf;rw[bi,show((6+2*j:Nat):Int)=6+2*(j:Int) by omega]at q;exact q
    have dz:(6+2*(j:Int))<6+2*(n:Int):=by clear ad ba;omega
    clear bi;obtain⟨I,J,G,_,_,_⟩:=Df F.out.row;have Y:(cs.take j).length=j:=by rw[rF,ab.out];omega
    rw[Y]at G;subst G;have bk:Hid (CI w wr.drew u g k (cs.take j) (.slice I j J)):=F.out.below (nv _ _).drew;have dk:=bk.out.b.1 2 _ rfl;go_upto_region 10 with fail
    go_region_law (first|(refine KK (O.alloc (.cells #[.int .i64 z] 3)) (by rfl) (.tmp 34) (.tmp 38) 25 (by rfl) (w.heap.size+1) 3 cp (.int .i64 0) 1 8 underlying25 cr cu cx c3 rfl (by decide) (.slice I j J) j (GA (cs.take j)) (by rfl) (bl.out.alloc _) (some ⟨O.heap.size,0,none⟩) 1 1 (GA [z]) (by rfl) (by rfl) (.inr ⟨_,rfl,eH O z _⟩) (cz _) (by unfold maxLen;omega) (by omega) (nP Q.out.b.lt (by rw[nw];exact Nat.le_succ _)) ?_;intro d0 dm bn bo dn;obtain⟨cg,ch,rfl,_,_,_⟩:=Df bn;have bp:=(Q.out.b.below ((nv _ O).alloc (nn _) _)).grown bo (Ow bl.out);have dp:=bp.1 2 _ rfl;have dr:=bp.2 2;have ds:Hid (CI w (dm.setCell ⟨w.heap.size,2,none⟩ (.slice cg (j+1) ch)) u g k (cs.take (j+1)) (.slice cg (j+1) ch)):=(by show CI _ _ _ _ _ _ _;rw[de.out];exact Q.out.app _ bo z (by rw[Y];exact bn));clear bn bo dn bp)|(go_simp;go_at_call 41;(with_reducible refine np (dg.out _) ?_);rintro e O ⟨rfl,q6⟩;have Q:Hid (CI w O u g k (cs.take j) (.slice I j J)):=bk.out.below q6;have ak:=Q.out.b.1 2 _ rfl;have bl:Hid (O.ownsRow (w.heap.size+1) 3 1 (.slice I j J) j (GA (cs.take j))):=(by have q:=Q.out.row;rw[Y]at q;exact q);have c7:=(Q.out.b.below ((nv _ O).alloc (nn _) (.cells #[.int .i64 z] 3))).1 2 _ rfl;clear q6))
    all_goals
     clear F bk Q bl ak c7 dp dr dk;go_wp2;go_roundw
     case rel=>exact⟨j+1,_,by first|rfl|(congr 1;omega),by omega,ds.out⟩
     case measure=>simp[intOf];omega
   ·have du:j=n:=by omega
    subst du;have d1:¬((6+2*(j:Int))<6+2*(j:Int)):=by omega
    obtain⟨I,J,G,_,_,_⟩:=Df F.out.row;have Y:cs.take j=cs:=by rw[←ab.out,List.take_length]
    rw[Y]at F G;rw[ab.out]at G;subst G;have b0:=F.out.b.1 0 _ rfl;have b1:=F.out.b.1 1 _ rfl;have b2:=F.out.b.1 2 _ rfl;have b3:=F.out.b.1 3 _ rfl;have b4:=F.out.b.2 0;have b5:=F.out.b.2 1;have b6:=F.out.b.2 2;have b7:=F.out.b.2 3;go_upto_region 11 with fail
    have d2:(6+2*(j:Int)).toNat=6+2*j:=by omega
    have d3:(0:Int)≤6+2*(j:Int):=by omega
    have t3:(6+2*(j:Int))≤6+2*(j:Int)+(m:Int):=by omega
    have d4:=T.out;go_region
    all_goals
     have Z:Hid (CI w ((((wr.setCell ⟨w.heap.size,0,none⟩ (.int .i64 u)).setCell ⟨w.heap.size,1,none⟩ (.int .i64 g)).setCell ⟨w.heap.size,2,none⟩ (.slice I j J)).setCell ⟨w.heap.size,3,none⟩ (.int .i64 k)).drew u g k cs (.slice I j J)):=F.out.again.below (nv _ _).drew;go_wp2;refine nG (v:=.tuple #[.agg #[.int .i64 u,.int .i64 g,.slice I j J,.int .i64 k],.string a6]) ?_ rfl ⟨I,J,rfl,Z.out⟩;have a0:=Z.out.b.1 0 _ rfl;have dw:=Z.out.b.1 1 _ rfl;have a2:=Z.out.b.1 2 _ rfl;have a3:=Z.out.b.1 3 _ rfl;simp[results,results24,go_sem,a0,dw,a2,a3]
end Go.Proofs.YtofhphibahcniaaGreatDoor
namespace Go.Proofs.YtofhphibahcniaaGreatDoor
open Go.Proofs.Tryz
def QA{F:Type}(q:Int)(a b:Int×Nd×F):Prop:=(b.1≠0→a.1=b.1)∧(b.1=0→(q<CH b.2.1→a.1=12)∧(CH b.2.1≤q→a=b))
theorem QA.ite{H:Type}{q:Int}{P:Prop} [Decidable P]{a b F G:Int×Nd×H}(I:QA q a F)(J:QA q b G):QA q (if P then a else b) (if P then F else G):=by
 split
 ·exact I
 ·exact J
theorem QA.same{F:Type}{q:Int}{a:Int×Nd×F}(h:CH a.2.1≤q):QA q a a:=⟨fun _=>rfl,fun _=>⟨fun e=>by omega,fun _=>rfl⟩⟩
theorem QA.fin{J:Type}{q H:Int}{x0:Nd}(O:q≤H)(r:Int×Nd)(c:J):QA q ((fin q x0 r).1,(fin q x0 r).2,c) ((fin H x0 r).1,(fin H x0 r).2,c):=by
 unfold Go.Proofs.YtofhphibahcniaaGreatDoor.fin;by_cases F:r.1≠0
 ·rw[nD F,nD F]
  exact⟨fun _=>rfl,fun e=>absurd e F⟩
 rw[nC F,nC F];by_cases G:CC true r.2≠0
 ·rw[nD G,nD G]
  exact⟨fun _=>rfl,fun e=>absurd e G⟩
 rw[nC G,nC G];by_cases I:H<CH r.2
 ·rw[nD I,nD (by omega)]
  exact⟨fun _=>rfl,fun e=>absurd (show(12:Int)=0 from e) (by decide)⟩
 rw[nC I];refine⟨fun e=>absurd rfl e,fun _=>⟨fun e=>?_,fun e=>?_⟩⟩
 ·rw[nD e]
 ·rw[nC (Int.not_lt.2 e)]
theorem eK{c:AO}{q G:Int}(F:q≤G){x0:Nd}(hx:CH x0≤q)(ni:List Nd)(cop cA cB:Int)(p o n d:BA):QA q (c.actS q x0 ni cop cA cB p o n d) (c.actS G x0 ni cop cA cB p o n d):=by
 unfold AO.actS;exact .ite (.fin F _ _) (.ite (.fin F _ _) (.ite (.fin F _ _) (.ite (.fin F _ _) (.ite (.fin F _ _) (.ite (.fin F _ _) (.ite (.fin F _ _) (.ite (.fin F _ _) (.ite (.same hx) (.same hx)))))))))
def QD{F G:Type}(q:Int)(a b:Int×F×Nd×G):Prop:=(b.1≠0→a.1=b.1)∧(b.1=0→(q<CH b.2.2.1→a.1=12)∧(CH b.2.2.1≤q→a=b))
theorem QD.ite{H I:Type}{q:Int}{P:Prop} [Decidable P]{a b F G:Int×H×Nd×I}(J:QD q a F)(O:QD q b G):QD q (if P then a else b) (if P then F else G):=by
 split
 ·exact J
 ·exact O
theorem QD.same{F G:Type}{q:Int}{a:Int×F×Nd×G}(h:CH a.2.2.1≤q):QD q a a:=⟨fun _=>rfl,fun _=>⟨fun e=>by omega,fun _=>rfl⟩⟩
theorem QA.told{F G:Type}{q:Int}{a b:Int×Nd×G}(h:QA q a b)(t:F):QD q (a.1,t,a.2.1,a.2.2) (b.1,t,b.2.1,b.2.2):=⟨h.1,fun z=>⟨(h.2 z).1,fun y=>by rw[(h.2 z).2 y]⟩⟩
theorem fm{c:AO}{q F:Int}(G:q≤F){x0:Nd}(hx:CH x0≤q)(ni:List Nd)(cop cA cB:Int)(p o n d:BA):QD q (c.doF q x0 ni cop cA cB p o n d) (c.doF F x0 ni cop cA cB p o n d):=by
 unfold AO.doF;exact .ite (.same hx) (.ite (.same hx) (.ite (.same hx) (.ite (.same hx) (.ite (.same hx) ((eK G hx ni cop cA cB p o n d).told _)))))
def QE{F:Type}(z:F)(a:Int×F):Prop:=a.1≠0→a.2=z
theorem QE.ite{F:Type}{z:F}{P:Prop} [Decidable P]{a b:Int×F}(G:QE z a)(H:QE z b):QE z (if P then a else b):=by
 split
 ·exact G
 ·exact H
theorem QE.fin{F:Type}(q:Int)(x0:Nd)(r:Int×Nd)(c:F):QE (x0,c) ((fin q x0 r).1,(fin q x0 r).2,c):=by
 unfold Go.Proofs.YtofhphibahcniaaGreatDoor.fin;split
 ·exact fun _=>rfl
 split
 ·exact fun _=>rfl
 split
 ·exact fun _=>rfl
 ·exact fun e=>absurd rfl e
theorem fG(c:AO)(cA cB:Int):QE (c.u,c.g,c.cs,c.k) (c.beS cA cB):=by
 unfold AO.beS;split
 ·exact fun _=>rfl
 split
 ·exact fun _=>rfl
 ·exact fun e=>absurd rfl e
theorem eU(c:AO)(q:Int)(x0:Nd)(ni:List Nd)(cop cA cB:Int)(p o n d:BA):QE (x0,c.u,c.g,c.cs,c.k) (c.actS q x0 ni cop cA cB p o n d):=by
 unfold AO.actS;exact .ite (.fin _ _ _ _) (.ite (.fin _ _ _ _) (.ite (.fin _ _ _ _) (.ite (.fin _ _ _ _) (.ite (.fin _ _ _ _) (.ite (.fin _ _ _ _) (.ite (.fin _ _ _ _) (.ite (.fin _ _ _ _) (.ite (fun e=>by show(x0,(c.beS cA cB).2)=_;rw[fG c cA cB e]) (fun _=>rfl)))))))))
theorem fw(c:AO)(q:Int)(x0:Nd)(ni:List Nd)(cop cA cB:Int)(p o n d:BA)(h:(c.doF q x0 ni cop cA cB p o n d).1≠0):(c.doF q x0 ni cop cA cB p o n d).2.2=(x0,c.u,c.g,c.cs,c.k):=by
 revert h;unfold AO.doF;split
 ·exact fun _=>rfl
 split
 ·exact fun _=>rfl
 split
 ·exact fun _=>rfl
 split
 ·exact fun _=>rfl
 split
 ·exact fun _=>rfl
 ·exact eU c q x0 ni cop cA cB p o n d
end Go.Proofs.YtofhphibahcniaaGreatDoor
namespace Go.Proofs.YtofhphibahcniaaGreatDoor
open Go.RowKit Go.Proofs.Tryz
theorem dY{w:World}{b:Nat}{B:Bx}(h:AX w b B){a:Option Addr}{rs:List Rg}(Q:Rgs w a rs):rs=[]∨D6 a b:=by
 rcases Q with e|⟨R,G,rfl,T⟩
 ·exact .inl e
 cases rs with
 |nil=>exact .inl rfl
 |cons r rs=>
  refine .inr fun p I=>?_;injection I with I
  rw[←I];show R≠b;rintro rfl;obtain⟨F,g1,H⟩:=T 0 r rfl;rw[r3,rT]at F g1 H;obtain⟨c0,c1,c2,V,Y,J,Z,c7⟩:=h.cells;have O:=h.end8;rcases(by omega:G=0∨G=1∨G=2∨G=3∨G=4∨G=5∨G=6∨G=7∨8≤G)with q|q|q|q|q|q|q|q|q
  ·subst q;rw[c0]at F;cases F
  ·subst q;rw[c1]at F;cases F
  ·subst q;rw[c2]at F;cases F
  ·subst q;rw[J]at H;cases H
  ·subst q;rw[J]at g1;cases g1
  ·subst q;rw[J]at F;cases F
  ·subst q;rw[O 8 (by omega)]at H;cases H
  ·subst q;rw[O 8 (by omega)]at g1;cases g1
  ·rw[O G q]at F;cases F
theorem U4{w w':World}{b:Nat}{B:Bx}(h:AX w b B)(hb:Ao b w w'){a:Option Addr}{rs:List Rg}(F:Rgs w a rs):Rgs w' a rs:=by
 rcases dY h F with e|e
 ·exact .inl e
 ·exact Mb F hb e
theorem AX.other{w w':World}{b c:Nat}{B X:Bx}(h:AX w c X)(F:AX w b B)(G:c≠b)(H:X.cs=[]∨D6 X.ca b)(hb:Ao b w w'):AX w' c X where
 cells:=by
  obtain⟨c0,c1,c2,I,J,O,Q,c7⟩:=h.cells;have k:=fun o=>hb.cell (p:=⟨c,o,none⟩) h.lt G;exact⟨(k _).trans c0,(k _).trans c1,(k _).trans c2,(k _).trans I,(k _).trans J,(k _).trans O,(k _).trans Q,(k _).trans c7⟩
 end8:=fun o R=>(hb.cell (p:=⟨c,o,none⟩) h.lt G).trans (h.end8 o R)
 fz:=fun o=>(hb.frozen (p:=⟨c,o,none⟩) h.lt G).trans (h.fz o)
 maps:=⟨U4 F hb h.maps.u,U4 F hb h.maps.g,h.maps.ul,h.maps.gl,h.maps.cu,h.maps.cg,h.maps.ou,h.maps.og⟩
 lay:=(OV (fun k T=>by
  have:k=b:=by simpa using T
  rw[this];exact F.noStr) h.lay).on (Gh hb)
 lcap:=h.lcap
 grp:=NV h.grp hb H
 gcap:=h.gcap
 au:=h.au
 ag:=h.ag
 ac:=h.ac
theorem dU{w:World}{a:Option Addr}{F:List Int}(h:A6 w a F):F=[]∨∀p,a=some p→p.block<w.heap.size:=by
 rcases h with e|⟨I,J,rfl,H⟩
 ·exact .inl e
 cases F with
 |nil=>exact .inl rfl
 |cons z F=>
  refine .inr fun p G=>?_;injection G with G
  rw[←G];exact nz _ _ (H 0 (by simp))
theorem dN{w w':World}{b G base n cap:Nat}{B:Bx}{L:List Fl}(J:AX w b B)(hb:Ao b w w')(O:G≠b)(Q:w.ownsRow base 54 8 (.slice (some ⟨G,0,none⟩) n cap) L.length (Bj L))(R:∀f∈L,Ah (Ag w.cell? (fun k=>k==G)) f.x f.h):w'.ownsRow base 54 8 (.slice (some ⟨G,0,none⟩) n cap) L.length (Bj L)∧∀f∈L,Ah (Ag w'.cell? (fun k=>k==G)) f.x f.h:=by
 have T:w.grownBy w' (some b):=⟨hb.os,hb.tape,hb.output,hb.size,fun k H V=>hb.block k H (fun e=>V (by rw[e]))⟩;refine⟨Q.kept T (.inr fun e=>O (by simpa [Value.ownBlock]using e)),fun f Y=>?_⟩;refine(GK (S:=fun k=>k==b) (fun k H=>?_) (R f Y)).on fun q v F=>?_
 ·obtain rfl:k=b:=by simpa using H
  intro o s _ e _;exact absurd ((Ci _ _) _ _ e) (J.noStr o s)
 ·have I:=IJ F
  rw[Ck I]at F;have Z:=IJ F;rw[Ck Z]at F⊢;exact(hb.cell (nz _ _ F) (by simpa using I)).trans F
theorem OO{w:World}{F base n cap:Nat}{L:List Fl}(G:w.ownsRow base 54 8 (.slice (some ⟨F,0,none⟩) n cap) L.length (Bj L)):(∀(i:Nat) (f:Fl),L[i]? =some f→Bi w.cell? F (0+i*8) f.x f.h)∧∀o,w.frozen? ⟨F,o,none⟩=false:=by
 obtain⟨a,c,e,_,_,h⟩:=Df G;rcases h with⟨rfl,_⟩|⟨g,rfl,_,_,H,I⟩
 ·cases e
 obtain rfl:F=g:=by injection e with e;injection e with e;injection e
 exact⟨fun i f J=>Ec.2 fun q u O=>by rw[nU];exact H _ _ (JD L i f J q u O),I⟩
theorem AX.put8{w:World}{b:Nat}{B:Bx}(h:AX w b B){y:Nd}{ni:List Nd}(I:B.xs=y::ni){F base:Nat}{L:List Fl}(V:B.la=some ⟨F,0,none⟩)(J:F≠b)(Y:w.ownsRow base 54 8 (.slice (some ⟨F,0,none⟩) B.xs.length B.lc) L.length (Bj L))(Z:∀f∈L,Ah (Ag w.cell? (fun k=>k==F)) f.x f.h)(aa:L.map Fl.x=B.xs)(ab:B.M.us=[]∨D6 B.M.ua F)(ad:B.M.gs=[]∨D6 B.M.ga F)(ak:B.cs=[]∨D6 B.ca F){x:Nd}{hx:Hd}(ao:Ah (Ag w.cell? (fun k=>k==F)) x hx):
 AX (CU w F 0 x hx) b {B with xs:=x::ni}:=by
 have hb:Ao F w (CU w F 0 x hx):=LX;have O:∀{a:Option Addr} {rs:List Rg},Rgs w a rs→(rs=[]∨D6 a F)→Rgs (CU w F 0 x hx) a rs:=fun ap e=>e.elim .inl fun e=>Mb ap hb e;obtain⟨c0,c1,c2,ar,ay,az,a1,c7⟩:=h.cells
 have k:=fun o=>hb.cell (p:=⟨b,o,none⟩) h.lt (Ne.symm J);have Q:(x::ni).length=B.xs.length:=by rw[I];rfl
 refine⟨⟨(k _).trans c0,(k _).trans c1,?_,(k _).trans ar,(k _).trans ay,(k _).trans az,(k _).trans a1,(k _).trans c7⟩,fun o a6=>(k o).trans (h.end8 o a6),fun o=>(hb.frozen (p:=⟨b,o,none⟩) h.lt (Ne.symm J)).trans (h.fz o),⟨O h.maps.u ab,O h.maps.g ad,h.maps.ul,h.maps.gl,h.maps.cu,h.maps.cg,h.maps.ou,h.maps.og⟩,?_,?_,NV h.grp hb ak,h.gcap,h.au,h.ag,h.ac⟩
 ·show _=some (Value.slice B.la (x::ni).length B.lc)
  rw[Q];exact(k _).trans c2
 ·show Cn _ B.la (x::ni)
  rw[V];have R:∀(i:Nat) (z:Nd),(y::ni)[i]? =some z→∃f:Fl,L[i]? =some f∧f.x=z:=fun i z G=>by
   rw[←I,←aa,n4]at G;exact n0.1 G
  have T:=(OO Y).1;refine .inr ⟨F,0,rfl,fun i=>if i=0 then hx else(L.getD i ⟨zN,zH,0⟩).h,fun i z G=>?_⟩;cases i with
  |zero=>
   obtain rfl:x=z:=by simpa using G
   obtain⟨f,H,_⟩:=R 0 y rfl;exact⟨Km (T 0 f H),ao.on (Gh hb)⟩
  |succ i=>
   obtain⟨f,H,rfl⟩:=R (i+1) z (by simpa using G);have e:(L.getD (i+1) ⟨zN,zH,0⟩)=f:=by rw[List.getD_eq_getElem?_getD,H];rfl
   simp only[Nat.add_one_ne_zero,if_false];rw[e];refine⟨Ec.2 fun q u a7=>?_,Ah.on (Z f (nE H)) (Gh hb)⟩;refine(G5 fun j ba=>?_).trans (Ec.1 (T (i+1) f H) q u a7);intro a8;injection a8 with _ e3
   omega
 ·show(x::ni).length≤B.lc∧_
  rw[Q];exact h.lcap
theorem ZT(W:World)(n:Int):(Instr.typeAssert (.iface 78 (.int .i64 n)) 37 78 true).run prog W=.ok (.tuple #[.int .i64 n,.bool true]) W:=by kernel_rfl
def Fo(E f:Int):Bool:=if E=0 then f==0 else decide (0<f)&&E==f
theorem OC(E f:Int)(w:World):Calls prog 14 #[Am E,.int .i64 f] w fun e w'=>e=.returned (.bool (Fo E f))∧w=w':=by
 have H:=ZT;by_cases h:E=0
 ·have e:Fo E f=(f==0):=by unfold Fo;rw[nD h]
  rw[Co h,e];go_enter func14,ntmps14;go_wp2;go_ret;exact⟨rfl,rfl⟩
 ·have e:Fo E f=(decide (0<f)&&E==f):=by unfold Fo;rw[nC h]
  rw[AG rfl h,e];by_cases F:0<f
  ·have G:decide (0<f)=true:=nF F
   go_enter func14,ntmps14;go_wp2;go_ret;exact⟨by simp[G],rfl⟩
  ·have G:decide (0<f)=false:=nB F
   go_enter func14,ntmps14;go_wp2;go_ret;exact⟨by simp,rfl⟩
theorem dR{E f:Int}(h:Fo E f=true):E=f:=by
 unfold Fo at h;split at h
 ·rename_i e
  rw[e];exact(by simpa using h:f=0).symm
 ·simp at h
  exact h.2
theorem bR{E:Int}(h:0≤E):Fo E E=true:=by
 unfold Fo;split
 ·rename_i e
  rw[e];rfl
 ·simp
  omega
def JS(E:Int):Int:=if 0≤E∧E≤17 then E else-1
theorem Yd(E:Int)(w:World):Calls prog 11 #[Am E] w fun e w'=>e=.returned (.int .i64 (JS E))∧w=w':=by
 obtain⟨Q,I⟩:=AQ (Am E);have R:Hid (∀f w,Calls prog 14 #[Q,.int .i64 f] w fun e w'=>e=.returned (.bool (Fo E f))∧w=w'):=by rw[←I.out];exact OC E
 rw[I.out];go_enter func11,ntmps11;go_wp2;go_loopw [3] (fun i wr=>∃j:Nat,j≤18∧i=.int .i64 j∧Hid (∀t:Nat,t<j→Fo E t=false)∧w=wr) (fun i _=>18-(intOf i).toNat)
 case atStart=>exact⟨0,by omega,rfl,fun t J=>absurd J (Nat.not_lt_zero _),rfl⟩
 case round=>
  obtain⟨j,V,rfl,O,rfl⟩:=hrel;by_cases h:j≤17
  ·have T:decide ((j:Int)≤17)=true:=nF (by omega)
   obtain⟨r,F⟩:=AQ (Fo E j);have G:=hid (R.out j w);rw[F.out]at G;go_wp2_with fail
   refine np G.out ?_;rintro e Y ⟨rfl,rfl⟩;clear G;cases r with
   |true=>
    have e:=dR F.out;have H:Hid (JS E=j):=by show _=_;unfold JS;rw[nD (by omega),e]
    clear e;go_wp2;go_ret;exact⟨by rw[H.out];rfl,rfl⟩
   |false=>
    go_wp2;go_roundw
    case rel=>
     refine⟨j+1,by omega,by go_num,fun t J=>?_,trivial⟩;by_cases e:t=j
     ·rw[e];exact F.out
     ·exact O.out t (by omega)
    case measure=>(simp[intOf];try omega)
  ·have T:decide ((j:Int)≤17)=false:=nB (by omega)
   have H:Hid (JS E=-1):=by
    show _=_;unfold JS;refine nC fun e=>?_;have q:=O.out E.toNat (by omega)
    rw[Int.toNat_of_nonneg e.1,bR e.1]at q;cases q
   go_wp2;go_ret;exact⟨by rw[H.out];rfl,rfl⟩
theorem Wx(a b:Option Addr)(c1 c2 n:Nat)(l:List BA)(w:World)(F:l.length=n)(Y:n≤9223372036854775807)(h:AW w.cell? a l)(h':AW w.cell? b l):
 Calls prog 33 #[.slice a n c1,.slice b n c2] w fun e w'=>e=.returned (.bool true)∧Below w.heap.size w w':=by
 have Z:((n:Int)!=(n:Int))=false:=by simp
 go_enter func33,ntmps33;go_wp2;go_loopw [5] (fun i wr=>∃k:Nat,k≤n∧i=.int .i64 k∧Below w.heap.size w wr) (fun i _=>n-(intOf i).toNat)
 case atStart=>exact⟨0,nN _,rfl,nv _ _⟩
 case round=>
  obtain⟨k,aa,rfl,hb⟩:=hrel;by_cases ab:k<n
  ·obtain⟨r,G⟩:∃r,l[k]? =some r:=⟨l[k]'(by omega),nt _⟩
   rcases h with H|⟨Q,R,rfl,I⟩
   ·rw[H]at F;simp at F;omega
   rcases h' with H|⟨T,V,rfl,J⟩
   ·rw[H]at F;simp at F;omega
   have O:=I k r G;have z0:=J k r G;have ad:wr.cell? ⟨Q,R+k,none⟩=some (.string r):=Aj hb _ _ O;have ak:wr.cell? ⟨T,V+k,none⟩=some (.string r):=Aj hb _ _ z0;have ao:(k:Int)<(n:Int):=by omega
   clear O z0 I J G;go_wp2;go_quiet (fail)
   go_wp2;go_roundw
   case rel=>exact⟨k+1,by omega,by go_num,rz hb _⟩
   case measure=>simp[intOf];omega
  ·go_wp2
   go_ret;exact⟨rfl,hb⟩
abbrev Wf(F:Gx)(a:Option Addr)(cap:Nat):Value:=.agg #[.int .i64 F.k,.int .i64 F.m,.int .i64 F.u,.int .i64 F.g,.int .i64 F.n,.slice a F.nm.length cap,.string F.d]
abbrev Fw(F:Gx)(a:Option Addr)(cap:Nat):Obj:=.cells #[.int .i64 F.k,.int .i64 F.m,.int .i64 F.u,.int .i64 F.g,.int .i64 F.n,.slice a F.nm.length cap,.string F.d] 44
theorem WM(F:Gx)(a b:Option Addr)(c1 c2:Nat)(w:World)(I:F.nm.length≤c1∧c1≤9223372036854775807)(h:AW w.cell? a F.nm)(h':AW w.cell? b F.nm):
 Calls prog 15 #[Wf F a c1,Wf F b c2] w fun e w'=>e=.returned (.bool true)∧Bw w w':=by
 have G:Bw w ((w.alloc (Fw F a c1)).alloc (Fw F b c2)):=((nv _ _).alloc (nn _) _).alloc (by rw[nw];omega) _;have H:=hid G;have J:=hid (Wx a b c1 c2 _ F.nm ((w.alloc (Fw F a c1)).alloc (Fw F b c2)) rfl (by omega) (h.on (Aj G)) (h'.on (Aj G)));clear G h h' I;obtain⟨k,m,u,g,n,nm,d⟩:=F;dsimp only at*;go_enter func15,ntmps15;go_wp2_with fail
 refine np J.out ?_;rintro e Q ⟨rfl,q2⟩;have O:=hid (H.out.trans (q2.mono H.out.size));clear q2;go_wp2;go_ret;exact⟨rfl,O.out⟩
theorem Oz{x:Int}(h:Bo x=true):0≤x∧x≤65535:=by
 unfold Bo at h;simp at h;omega
theorem VF{F:List Int}:∀(n k:Nat),gF F k n=0→∀i,k≤i→i<k+n→Bo (F.getD i 0)=true
 |0,k,_,i,h1,h2=>by omega
 |n+1,k,h,i,h1,h2=>by
  rw[gF]at h;split at h
  ·rename_i hk
   by_cases e:i=k
   ·rw[e]
    unfold Fa at hk;split at hk
    ·cases hk
    ·rename_i q;simpa using q
   ·exact VF n (k+1) h i (by omega) (by omega)
  ·rename_i hk;exact absurd h hk
theorem bj{u g c:Int}{F:List Int}(h:Cx u g F c=0):(0≤u∧u≤65535)∧(0≤g∧g≤65535)∧(0≤c∧c≤255)∧F.length≤4∧∀z∈F,0≤z∧z≤65535:=by
 unfold Cx at h;split at h
 ·cases h
 rename_i h1;split at h
 ·cases h
 have H:Bo u=true:=by cases e:Bo u;exact absurd (.inl e) h1;rfl
 have I:Bo g=true:=by cases e:Bo g;exact absurd (.inr (.inl e)) h1;rfl
 have O:¬(c<0∨15<c):=fun e=>h1 (.inr (.inr e));refine⟨Oz H,Oz I,by omega,by omega,fun z J=>?_⟩
 obtain⟨i,G⟩:=n5 J;have e:=VF F.length 0 h i (by omega) (by have:=(ny.1 G).1;omega);rw[List.getD_eq_getElem?_getD,G]at e;exact Oz e
theorem CI.ints{W w:World}{u g k:Int}{cs:List Int}{a:Option Addr}{cap:Nat}(h:CI W w u g k cs (.slice a cs.length cap)):A6 w a cs∧(∀p,a=some p→W.heap.size<p.block)∧cs.length≤cap∧cap≤9223372036854775807:=by
 obtain⟨J,O,e,G,H,Q⟩:=Df h.row;obtain⟨rfl,rfl⟩:a=J∧cap=O:=by simpa using e
 rcases Q with⟨rfl,R,_,_⟩|⟨g,rfl,T,_,V,_⟩
 ·exact⟨.inl (rq.1 R),fun p F=>(by cases F),G,H⟩
 ·refine⟨.inr ⟨g,0,rfl,fun i I=>?_⟩,fun p F=>(by injection F with F;rw[←F];exact T),G,H⟩
  rw[nU];refine V i _ ?_;rw[GA,n4,nt I,List.getD_eq_getElem?_getD,nt I];rfl
theorem O1{x:Nd}{q:Int}(h:CC true x=0)(F:CH x≤q)(G:q≤64):(BK x).length≤4096:=by
 unfold CH E6 at F;rw[nD h,Gf]at F;omega
theorem Yo{w:World}{ba bb ca lwa:Option Addr}{uc gc cc lwn lwc:Nat}{us gs:List Rg}{cs:List Int}{ap ar ck:Int}(dp:Rgs w ba us)(dr:Rgs w bb gs)(ds:us.length≤100)(du:gs.length≤100)(dw:us.length≤uc)(dx:gs.length≤gc)(dy:∀r∈us,r.ok)(dz:∀r∈gs,r.ok)(d0:A6 w ca cs)(d1:cs.length≤8)(hid:A2 ap∧A2 ar)
 {a:Option Addr} {cap:Nat} {xs:List Nd} (hx:Cn w.cell? a xs) (ff:xs.length≤5) (d2:∀x∈xs,AB x∧cnt x≤1000) (d3:∀x∈xs,AP x) {y:Nd} (bd:EZ us gs cs ap ar ck 64 xs y) {u g k:Int} {T:List Int} {x0:Nd} (bo:Cx u g T k=0) (hF:CE 60 x0) (bp:CC true x0=0) (cd:CH x0≤64):
 Calls prog 9 #[JP ba bb ca lwa uc gc cc lwn lwc us gs cs ap ar ck 64,.slice a xs.length cap,.string (A8 (Dn u g k T++BK x0))] w fun e w'=>(∃b X,e=.returned (.tuple #[.pointer (some ⟨b,0,none⟩),.nilIface])∧w.heap.size≤b∧AX w' b X∧Bv X x0 xs∧X.M.us=us∧X.M.gs=gs∧X.q=64∧X.crd=(u,g,T,k)∧∀p,X.ca=some p→w.heap.size≤p.block)∧Bw w w':=by
 have be:Bw w (w.alloc (A0 ba bb ca lwa uc gc cc lwn lwc us gs cs ap ar ck 64)):=E8 _ _;have bf:=Go.Proofs.YtofhphibahcniaaGreatDoor.hid be;have cf:=Go.Proofs.YtofhphibahcniaaGreatDoor.hid (SO (lwa:=lwa) (cc:=cc) (lwn:=lwn) (lwc:=lwc) (ck:=ck) (q:=64) (cap:=cap) (dp.below be) (dr.below be) ds du dw dx dy dz (d0.below be) d1 hid (hx.on (Aj be)) ff d2 d3);have d4:Hid (∃y,EZ us gs cs ap ar ck 64 xs y):=⟨y,bd⟩;obtain⟨d5,d6,d7,fg,d8⟩:=bj bo;have fh:=O1 bp cd (Int.le_refl _);have cg:Hid (∀w',Calls prog 24 #[.string (A8 (Dn u g k T++BK x0))] w' _):=fun w'=>WB (w:=w') d5 d6 d7 (by omega) d8 (by rw[nM,LL];omega);have d9:Hid (∀w' bs ch,A6 w' bs T→Calls prog 25 #[.agg #[.int .i64 u,.int .i64 g,.slice bs T.length ch,.int .i64 k]] w' fun e fl=>e=.returned .nilIface∧Bw w' fl):=fun w' bs ch h=>by
  have e:=Hs u g k bs ch T w' (by omega) h;rw[Co bo]at e;exact e
 have ea:Hid (∀w',Calls prog 26 #[.string (A8 (BK x0)),.bool true] w' _):=fun w'=>Xh true (w:=w') hF.lil (by omega) bp;have cl:Hid (∀(w':World) (h':Hd),Ah w'.cell? x0 h'→Calls prog 12 #[Al x0 h'] w' _):=fun w' h' h=>JV h hF.lil (by have:=hF.cnt;omega) (by omega)
 have bu:Hid (CE 60 x0∧CC true x0=0∧Cx u g T k=0∧T.length≤8):=⟨hF,bp,bo,by omega⟩;obtain⟨fr,eb⟩:=AQ (CH x0);rw[eb.out]at cd cl;obtain⟨S,fs⟩:=AQ (A8 (Dn u g k T++BK x0));rw[fs.out]at cg⊢;obtain⟨N,ec⟩:=AQ xs.length;rw[ec.out]at cf⊢;clear dp dr ds du dw dx dy dz d0 d1 hid hx d2 d3 bd bo hF bp d5 d6 d7 fg d8 fh;have ed:Hid (BX (w.alloc (A0 ba bb ca lwa uc gc cc lwn lwc us gs cs ap ar ck 64)) w.heap.size [.slice ba us.length uc,.slice bb gs.length gc,.int .i64 ap,.int .i64 ar,.slice ca cs.length cc,.int .i64 ck,.int .i64 64,.slice lwa lwn lwc]):=BX.new w _ _;go_enter func9,ntmps9;go_upto_region 1 with fail
 generalize(w.alloc (A0 ba bb ca lwa uc gc cc lwn lwc us gs cs ap ar ck 64))=gx at*;obtain⟨c0,c1,c2,ee,ef,eg,ej,c7⟩:=GH ed.out;go_wp2_with fail
 refine np cf.out ?_;rintro e ay ⟨fv,q2⟩;rcases fv with⟨E,_,_,fx⟩|⟨b,B,fY,rfl,ek,co,el,em,bd,en,_,_,G,f0,L,eo,ep,f1,bv,eq,er,es⟩
 ·exact absurd d4.out fx
 have eu:=Go.Proofs.YtofhphibahcniaaGreatDoor.hid (bf.out.trans (q2.mono bf.out.size));have ev:w.heap.size≤b:=nP bf.out.size ek;have gy:=co.lt;have f2:G<ay.heap.size∧w.heap.size≤G:=by
  have e:=bv.row.lt G rfl;have bg:=bf.out.size;omega
 have eB:=Go.Proofs.YtofhphibahcniaaGreatDoor.hid co;have Z:Hid (Bv B fY xs∧B.M.us=us∧B.M.gs=gs∧B.q=64∧B.la=some ⟨G,0,none⟩∧G≠b∧L.map Fl.x=B.xs∧(B.M.us=[]∨D6 B.M.ua G)∧(B.M.gs=[]∨D6 B.M.ga G)):=⟨el,em,bd,en,eo,ep,eq,er,es⟩;have cp:Hid (ay.ownsRow f0.heap.size 54 8 (.slice (some ⟨G,0,none⟩) B.xs.length B.lc) L.length (Bj L)∧∀f∈L,Ah (Ag ay.cell? (fun k=>k==G)) f.x f.h):=⟨bv.row,fun f bi=>(bv.nd f bi).on (BN fun k _ bx=>⟨by simp[Value.ownBlock]at bx⊢;exact fun e=>bx e.symm,rfl⟩)⟩;have eE:=Go.Proofs.YtofhphibahcniaaGreatDoor.hid (cg.out ay);clear c0 c1 c2 ee ef eg ej c7 cf d4 el em bd en eo ep eq er es co ek q2 bv f1 ed cg bf;go_wp2_with fail
 refine np eE.out ?_;rintro e ad ⟨V,Y,rfl,cr⟩;obtain⟨eL,e0,e1⟩:=cr.ints;have bA:Bw ay ad:=cr.bel;have bB:Hid (Bw ay (ad.alloc (.cells #[.int .i64 u,.int .i64 g,.slice V T.length Y,.int .i64 k] 27))):=bA.alloc bA.size _;have az:Hid (A6 (ad.alloc (.cells #[.int .i64 u,.int .i64 g,.slice V T.length Y,.int .i64 k] 27)) V T∧(∀p,V=some p→ay.heap.size<p.block)∧T.length≤Y∧Y≤9223372036854775807):=⟨eL.below bN,e0,e1⟩;have cu:=Go.Proofs.YtofhphibahcniaaGreatDoor.hid (d9.out (ad.alloc (.cells #[.int .i64 u,.int .i64 g,.slice V T.length Y,.int .i64 k] 27)) V Y az.out.1);have a8:Hid (BX (ad.alloc (.cells #[.int .i64 u,.int .i64 g,.slice V T.length Y,.int .i64 k] 27)) ad.heap.size [.int .i64 u,.int .i64 g,.slice V T.length Y,.int .i64 k]):=BX.new ad _ _;have gz:ay.heap.size≤ad.heap.size:=bA.size;clear eL e0 e1 bA cr eE d9;obtain⟨a1,cx⟩:=AQ T.length;rw[cx.out]at bB az cu a8⊢;go_upto_region 5 with fail
 generalize(ad.alloc (.cells #[.int .i64 u,.int .i64 g,.slice V a1 Y,.int .i64 k] 27))=gC at*;generalize ad.heap.size=bC at*;have c3:=a8.out.1 0 _ rfl;have c4:=a8.out.1 1 _ rfl;have c5:=a8.out.1 2 _ rfl;have c6:=a8.out.1 3 _ rfl;go_wp2_with fail
 refine np cu.out ?_;rintro e bF ⟨rfl,q4⟩;have bG:=Go.Proofs.YtofhphibahcniaaGreatDoor.hid (bB.out.trans (q4.mono bB.out.size));have e2:=Go.Proofs.YtofhphibahcniaaGreatDoor.hid (az.out.1.below q4);have e3:=Go.Proofs.YtofhphibahcniaaGreatDoor.hid (a8.out.below q4);have e4:=Go.Proofs.YtofhphibahcniaaGreatDoor.hid (ea.out bF);have e5:=Go.Proofs.YtofhphibahcniaaGreatDoor.hid bG.out.size;clear c3 c4 c5 c6 cu q4 a8 bB ea;go_wp2_with fail
 refine np e4.out ?_;rintro e ak ⟨F,rfl,e6,q5⟩;obtain⟨I,J,u0,O,Q,nh,R,ks⟩:=x0;rw[show Al (.mk I J u0 O Q nh R ks) F=A5 I J u0 O Q nh R ks F from rfl];have c8:Bw ak (ak.alloc (As I J u0 O Q nh R ks F)):=bN;have bH:Bw bF (ak.alloc (As I J u0 O Q nh R ks F)):=q5.trans (c8.mono q5.size);have c9:=Go.Proofs.YtofhphibahcniaaGreatDoor.hid (bG.out.trans (bH.mono bG.out.size));have f3:=Go.Proofs.YtofhphibahcniaaGreatDoor.hid (e2.out.below bH);have f4:=Go.Proofs.YtofhphibahcniaaGreatDoor.hid (e3.out.below bH);have e7:Hid (Ah (kb (bF.heap.size+1) (ak.alloc (As I J u0 O Q nh R ks F))) (.mk I J u0 O Q nh R ks) F):=e6.on (CN c8);have e8:Hid (BX (ak.alloc (As I J u0 O Q nh R ks F)) ak.heap.size [.int .i64 I,.int .i64 J,.int .i64 u0,.int .i64 O,.bool Q,.slice F.aa nh.length F.ca,.string R,.slice F.ak ks.length F.ck]):=BX.new ak _ _;have gD:bF.heap.size≤ak.heap.size:=q5.size;clear c8 bH q5 e6 e4 bG e2 e3;go_upto_region 8 with fail
 generalize(ak.alloc (As I J u0 O Q nh R ks F))=a6 at*;generalize ak.heap.size=aa at*;have e9:=eB.out.below c9.out;have c7:a6.cell? ⟨b,7,none⟩=some (.int .i64 64):=by have e:=e9.cells.2.2.2.2.2.2.2;rw[Z.out.2.2.2.1]at e;exact e
 obtain⟨x0,bY,b0,b1,b2,b3,b4,b5⟩:=GH e8.out;have ab:Bw a6 a6.drew:=(nv _ _).drew;have da:=Go.Proofs.YtofhphibahcniaaGreatDoor.hid (cl.out a6.drew F ((e7.out.on (Ci _ _)).on (Aj ab)));rw[show Al (.mk I J u0 O Q nh R ks) F=A5 I J u0 O Q nh R ks F from rfl]at da;have db:F9 a6.drew aa I J u0 O Q nh R ks F b 7 (.int .i64 64):=⟨Af ab x0,Af ab bY,Af ab b0,Af ab b1,Af ab b2,Af ab b3,Af ab b4,Af ab b5,Af ab c7⟩;clear e9 c7 x0 bY b0 b1 b2 b3 b4 b5 ab cl;go_region_held3 (fun w'=>F9 w' aa I J u0 O Q nh R ks F b 7 (.int .i64 64)) (first|with_reducible exact db|with_reducible exact fa) (first|(go_at_call 12;(with_reducible refine np da.out ?_);rintro e H ⟨rfl,q7⟩;have fa:=db.on q7;have bk:Hid (Bw a6 H):=(nv a6.heap.size a6).drew.trans q7;clear q7 da))
 all_goals
  clear db fa;have gE:decide ((64:Int)<fr)=false:=nB (by omega);have b6:=Go.Proofs.YtofhphibahcniaaGreatDoor.hid (c9.out.trans (bk.out.mono c9.out.size));have a7:=Go.Proofs.YtofhphibahcniaaGreatDoor.hid (eB.out.below b6.out);obtain⟨dd,fb⟩:_∧_:=⟨Fp cp.out.1 b6.out,fun f bi=>(cp.out.2 f bi).on (CN b6.out)⟩;obtain⟨fc,f5⟩:=OO dd;obtain⟨f,f7⟩:∃f,L[0]? =some f:=by
   have e:=nW (fun l=>l[0]?) Z.out.2.2.2.2.2.2.1;rw[Z.out.1.xs,n4]at e;obtain⟨f,bi,_⟩:=n0.1 e;exact⟨f,bi⟩
  have de:=fc 0 f f7;have dg:G≠b:=Z.out.2.2.2.2.2.1;have gG:=a7.out.lt;have b7:Ao b H ((((H.setCell ⟨b,3,none⟩ (.int .i64 u)).setCell ⟨b,4,none⟩ (.int .i64 g)).setCell ⟨b,5,none⟩ (.slice V a1 Y)).setCell ⟨b,6,none⟩ (.int .i64 k)):=((((Ao.refl b H).setCell 3 none _).setCell 4 none _).setCell 5 none _).setCell 6 none _;have dj:=a7.out.put4 u g k (cc:=Y) (f3.out.below bk.out) (.inr fun p bl=>by have:=az.out.2.1 p bl;omega) ⟨by rw[cx.out];exact az.out.2.2.1,az.out.2.2.2⟩;rw[cx.out]at dj;obtain⟨dk,fd⟩:=dN a7.out b7 dg dd fb
  have fe:Ah (Ag ((((H.setCell ⟨b,3,none⟩ (.int .i64 u)).setCell ⟨b,4,none⟩ (.int .i64 g)).setCell ⟨b,5,none⟩ (.slice V a1 Y)).setCell ⟨b,6,none⟩ (.int .i64 k)).cell? (fun q=>q==G)) (.mk I J u0 O Q nh R ks) F:=e7.out.on (AR.trans (CN bk.out) (BN fun q b9 bx=>by
   have gH:=of_decide_eq_false bx;have gI:=e5.out;exact⟨by simp;omega,b7.block q b9 (by omega)⟩))
  have dm:=dj.put8 Z.out.1.xs Z.out.2.2.2.2.1 dg dk fd Z.out.2.2.2.2.2.2.1 Z.out.2.2.2.2.2.2.2.1 Z.out.2.2.2.2.2.2.2.2 (.inr fun p bl=>by have:=az.out.2.1 p bl;omega) fe;rw[←Ic]at dm;have f8:Hid (AX ((((((((((((H.setCell ⟨b,3,none⟩ (.int .i64 u)).setCell ⟨b,4,none⟩ (.int .i64 g)).setCell ⟨b,5,none⟩ (.slice V a1 Y)).setCell ⟨b,6,none⟩ (.int .i64 k)).setCell ⟨G,0,none⟩ (.int .i64 I)).setCell ⟨G,1,none⟩ (.int .i64 J)).setCell ⟨G,2,none⟩ (.int .i64 u0)).setCell ⟨G,3,none⟩ (.int .i64 O)).setCell ⟨G,4,none⟩ (.bool Q)).setCell ⟨G,5,none⟩ (.slice F.aa nh.length F.ca)).setCell ⟨G,6,none⟩ (.string R)).setCell ⟨G,7,none⟩ (.slice F.ak ks.length F.ck)) b _):=dm;have f9:Hid (Bw w ((((((((((((H.setCell ⟨b,3,none⟩ (.int .i64 u)).setCell ⟨b,4,none⟩ (.int .i64 g)).setCell ⟨b,5,none⟩ (.slice V a1 Y)).setCell ⟨b,6,none⟩ (.int .i64 k)).setCell ⟨G,0,none⟩ (.int .i64 I)).setCell ⟨G,1,none⟩ (.int .i64 J)).setCell ⟨G,2,none⟩ (.int .i64 u0)).setCell ⟨G,3,none⟩ (.int .i64 O)).setCell ⟨G,4,none⟩ (.bool Q)).setCell ⟨G,5,none⟩ (.slice F.aa nh.length F.ca)).setCell ⟨G,6,none⟩ (.string R)).setCell ⟨G,7,none⟩ (.slice F.ak ks.length F.ck))):=by
   have bg:=eu.out.trans (b6.out.mono eu.out.size);have cb:=bg.trans (b7.below ev bg.size);have dn:Ao G ((((H.setCell ⟨b,3,none⟩ (.int .i64 u)).setCell ⟨b,4,none⟩ (.int .i64 g)).setCell ⟨b,5,none⟩ (.slice V a1 Y)).setCell ⟨b,6,none⟩ (.int .i64 k)) _:=Cz (x:=.mk I J u0 O Q nh R ks) (h:=F);exact cb.trans (dn.below f2.2 cb.size)
  have ga:Bi ((((H.setCell ⟨b,3,none⟩ (.int .i64 u)).setCell ⟨b,4,none⟩ (.int .i64 g)).setCell ⟨b,5,none⟩ (.slice V a1 Y)).setCell ⟨b,6,none⟩ (.int .i64 k)).cell? G (0+0*8) f.x f.h:=Ec.2 fun q u b9=>(b7.cell (nz _ _ (Ec.1 de q u b9)) dg).trans (Ec.1 de q u b9);have ao:=(OO dk).2
  obtain⟨gb,gJ,gK⟩:=f;obtain⟨gL,gM,gN,gO,gP,gQ,gR,gS⟩:=gb;obtain⟨gg,bg,cb,dn,gl,go,gq,gr⟩:=ga;simp only[r3,rT,nU]at gg bg cb dn gl go gq gr;have z0:=ao 0;have gT:=ao 1;have gU:=ao 2;have z3:=ao 3;have z4:=ao 4;have z5:=ao 5;have gV:=ao 6;have gW:=ao 7;obtain⟨_,_,c2,ee,ef,eg,ej,_⟩:=a7.out.cells;rw[Z.out.2.2.2.2.1,Z.out.1.xs,n3,ec.out]at c2;have gX:=a7.out.fz 3;have gY:=a7.out.fz 4;have gZ:=a7.out.fz 5;have g0:=a7.out.fz 6;obtain⟨x0,bY,b0,b1,b2,b3,b4,b5⟩:=GH (e8.out.below bk.out);have bn:=f4.out.below bk.out;have c3:=bn.1 0 _ rfl;have c4:=bn.1 1 _ rfl;have c5:=bn.1 2 _ rfl;have c6:=bn.1 3 _ rfl;have g2:H.drew.cell? ⟨aa,0,none⟩=some (.int .i64 I)∧H.drew.cell? ⟨aa,1,none⟩=some (.int .i64 J)∧H.drew.cell? ⟨aa,2,none⟩=some (.int .i64 u0)∧H.drew.cell? ⟨aa,3,none⟩=some (.int .i64 O)∧H.drew.cell? ⟨aa,4,none⟩=some (.bool Q)∧H.drew.cell? ⟨aa,5,none⟩=some (.slice F.aa nh.length F.ca)∧H.drew.cell? ⟨aa,6,none⟩=some (.string R)∧H.drew.cell? ⟨aa,7,none⟩=some (.slice F.ak ks.length F.ck)∧H.drew.cell? ⟨bC,0,none⟩=some (.int .i64 u)∧H.drew.cell? ⟨bC,1,none⟩=some (.int .i64 g)∧H.drew.cell? ⟨bC,2,none⟩=some (.slice V a1 Y)∧H.drew.cell? ⟨bC,3,none⟩=some (.int .i64 k)∧H.drew.cell? ⟨b,2,none⟩=some (.slice (some ⟨G,0,none⟩) (N+1) B.lc):=⟨x0,bY,b0,b1,b2,b3,b4,b5,c3,c4,c5,c6,c2⟩;have g5:aa≠b:=by have:=e5.out;omega
  clear fc f5 de dj dm dd fb dk fd fe ao bn cp;go_upto_region 10 with fail
  have gu:=Go.Proofs.YtofhphibahcniaaGreatDoor.hid (f8.out.below (nv _ _).drew);have gv:Hid (Bv {B with u:=u,g:=g,ca:=V,cc:=Y,cs:=T,k:=k,xs:=.mk I J u0 O Q nh R ks::xs} (.mk I J u0 O Q nh R ks) xs):=⟨rfl,bu.out.1,bu.out.2.1,Z.out.1.low,Z.out.1.len,by show CH _≤B.q;rw[eb.out,Z.out.2.2.2.1];exact cd,bu.out.2.2.1,bu.out.2.2.2⟩;have gw:Hid (∀p,V=some p→w.heap.size≤p.block):=fun p bl=>by have:=az.out.2.1 p bl;omega
  go_region
  go_wp2;go_ret2;exact⟨⟨b,rfl,ev,_,gu.out,gv.out,Z.out.2.1,Z.out.2.2.1,Z.out.2.2.2.1,rfl,gw.out⟩,f9.out.drew⟩
end Go.Proofs.YtofhphibahcniaaGreatDoor
