/-
  TopQuota: Xj Jc Shp Jd Je Xk Xl Xm Xn Xo.
-/
import Derived.Test.YtofhphibahcniaaGreatDoorApX
import Derived.Test.YtofhphibahcniaaGreatDoorUoX
import Derived.Test.YtofhphibahcniaaGreatDoorMaX
import Derived.Deep.QuietTactic
import Derived.BigQuiet
import Derived.Shelf.Strings.Split
import Derived.Test.YtofhphibahcniaaGreatDoorProg
import Derived.Lib.SplitLaws
set_option maxRecDepth 100000
set_option maxHeartbeats 16000000
namespace Go.Proofs.YtofhphibahcniaaGreatDoor
open Go.RowKit Go.Proofs.Tryz
abbrev F9(w:World)(b:Nat)(k m u g:Int)(o:Bool)(nh:List Kv)(d:BA)(ks:Ar)(h:Hd)(F i:Nat)(v:Value):Prop:=w.cell? ⟨b,0,none⟩=some (.int .i64 k)∧w.cell? ⟨b,1,none⟩=some (.int .i64 m)∧w.cell? ⟨b,2,none⟩=some (.int .i64 u)∧w.cell? ⟨b,3,none⟩=some (.int .i64 g)∧w.cell? ⟨b,4,none⟩=some (.bool o)∧w.cell? ⟨b,5,none⟩=some (.slice h.aa nh.length h.ca)∧w.cell? ⟨b,6,none⟩=some (.string d)∧w.cell? ⟨b,7,none⟩=some (.slice h.ak ks.length h.ck)∧w.cell? ⟨F,i,none⟩=some v
theorem F9.on{w w':World}{b:Nat}{k m u g:Int}{o:Bool}{nh:List Kv}{d:BA}{ks:Ar}{h:Hd}{F i:Nat}{v:Value}(G:F9 w b k m u g o nh d ks h F i v)(q:Bw w w'):F9 w' b k m u g o nh d ks h F i v:=by
 obtain⟨t0,H,I,t3,t4,t5,J,O,Q⟩:=G;exact⟨Af q t0,Af q H,Af q I,Af q t3,Af q t4,Af q t5,Af q J,Af q O,Af q Q⟩
abbrev N8(w:World)(b:Nat)(k m u g:Int)(o:Bool)(nh:List Kv)(d:BA)(ks:Ar)(h:Hd):Prop:=w.cell? ⟨b,0,none⟩=some (.int .i64 k)∧w.cell? ⟨b,1,none⟩=some (.int .i64 m)∧w.cell? ⟨b,2,none⟩=some (.int .i64 u)∧w.cell? ⟨b,3,none⟩=some (.int .i64 g)∧w.cell? ⟨b,4,none⟩=some (.bool o)∧w.cell? ⟨b,5,none⟩=some (.slice h.aa nh.length h.ca)∧w.cell? ⟨b,6,none⟩=some (.string d)∧w.cell? ⟨b,7,none⟩=some (.slice h.ak ks.length h.ck)
def JR(F:Except Int Fd)(an:Option Addr)(nj:Nat)(nf:List BA):Value:=match F with
 |.ok f=>.tuple #[Fd.v {f with na:=an,nc:=nj,nf:=nf},Am 0]
 |.error E=>.tuple #[Ds.v,Am E]
theorem Jy{G H:World}{n p:Nat}{cs:List Value}(hb:Bw G H):AR (Ag G.cell? (fun k=>k==n)) (H.setCells n p cs).cell?:=fun q v F=>by
 have I:q.block≠n:=fun e=>by
  unfold Ag at F;rw[nD (by simp[e])]at F;cases F
 rw[BP I];exact Aj hb q v (Ci _ _ q v F)
theorem Yp{w:World}{b:Nat}{B:Bx}(h:AX w b B){an:Option Addr}{nj:Nat}{nf:List BA}(f5:AW w.cell? an nf)(f7:B.xs.length≤1000)(gJ:nf.length≤1000)(f8:DL (BJ B.xs))(f9:E0 (BJ B.xs))(gK:AI B.xs []≠[])(gL:∀j q r,AI B.xs (nf.take j)=q::r→Ez q.1)(ga:∀j q r,AI B.xs (nf.take j)=q::r→0≤(B.th true q.1).m∧(B.th true q.1).m≤4095):
 Calls prog 117 #[.pointer (some ⟨b,0,none⟩),.slice an nf.length nj] w fun e w'=>(∃L:List Fl,(∃bY,L[0]? =some bY∧e=.returned (JR (B.wk (B.fd bY.x bY.h bY.ly) nf.length (L.drop 1)) an nj nf))∧(∀(j:Nat) f,L[j]? =some f→∃q r,AI B.xs (nf.take j)=q::r∧f.x=q.1.with []∧f.ly=q.2)∧(L.length=nf.length+1∨L.length≤nf.length∧AI B.xs (nf.take L.length)=[])∧∀f∈L,Ah w'.cell? f.x f.h)∧Bw w w':=by
 have eE:=A7.new w _ rfl CJ 101;have d1:Bw w (w.alloc AU):=(nv _ _).alloc (nn _) _;have gb:∀q,(w.alloc AU).frozen? ⟨w.heap.size,q,none⟩=false:=fun q=>nQ _ _ _ _ rfl;have gg:∀o,(w.alloc AU).cell? ⟨w.heap.size,o,none⟩=CJ[o]?:=fun o=>by rw[nl _ _ _ _ rfl];simp
 have d2:=h.below d1;have gl:Hid _:=Re (w:=(w.alloc AU)) (S:=fun _=>false) (cap:=B.lc) (nj:=nj) (fun _ gM=>by cases gM) (by rw[Dg];exact d2.lay) (by rw[Dg];exact f5.on (Aj d1)) f7 gJ f8 f9;have c2:=d2.cells.2.2.1;have eL:Hid _:=d1;have gN:Hid _:=d2;clear h d1 d2 f5 f7 f8 f9;go_enter func117,ntmps117;go_upto_region 1 with fail
 generalize(w.alloc AU)=gO at*;go_wp2_with fail
 refine np gl.out ?_;rintro e O ⟨⟨vn,vf,L,rfl,go,c8,d3⟩,cp⟩;have e0:L≠[]:=fun e=>by
  subst e;rcases d3 with q|q
  ·simp at q
  ·exact gK q.2
 obtain⟨g,bG,cn,hh,cb,hi,hj⟩:=JT.of go e0;obtain⟨bY,b5⟩:∃bY,L[0]? =some bY:=⟨_,nt (by cases L;exact absurd rfl e0;simp)⟩;have gq:∀f∈L,Ez f.x:=fun f b6=>by
  obtain⟨j,gP⟩:=n5 b6;obtain⟨q,r,dg,dj,_⟩:=c8 j f gP;rw[dj];have:=gL j q r dg;generalize q.1=x at this⊢;obtain⟨k,m,u,g,o,nh,d,ks⟩:=x;exact this
 have bx:=cb.nd 0 bY b5;have cd:=cb.ly 0 bY b5;obtain rfl:=cb.en;obtain rfl:=cb.ef;have d4:=gq bY (nE b5);obtain⟨c9,hx,bA⟩:=bY;dsimp only at bx cd d4;obtain⟨k,m,u,bB,o,nh,d,ks⟩:=c9;obtain⟨d5,d6,d7,d8,d9,ea,eb,ec⟩:=bx;rw[r3]at d5 d6 d7 d8 d9 ea eb ec;rw[nU]at d6 d7 d8 d9 ea eb ec;have ao:g≠O.heap.size:=fun e=>by have:=nz _ _ d5;simp only at this;omega
 have ed:bG≠O.heap.size:=fun e=>by have:=nz _ _ cd;simp only at this;omega
 have gQ:0<L.length:=ri.2 e0;have gR:(0:Int)<(L.length:Int):=by omega
 obtain⟨ap,dk⟩:∃ap:List Value,FX (Fd.l (B.fd (.mk k m u bB o nh d ks) hx bA)) ap:=⟨_,rfl⟩;have ar:ap.length=21:=by rw[←(show _=_ from dk)];rfl
 have bC:Hid (ap.length=21):=ar;have da:Hid (∀v∈ap,v.oneCell'=true):=by
  show∀v∈ap,_;rw[←(show _=_ from dk)];simp[Value.oneCell',Fd.l,Bx.fd,Bl,Jb]
 have b7:=BV ap;unfold Value.cells at b7;have b0:Hid ((B.fd (.mk k m u bB o nh d ks) hx bA).v=BT ap):=by show _=_;unfold Fd.v BT;rw[show _=_ from dk]
 have ee:=gN.out.below cp;have e1:Hid _:=Ov (x:=.mk k m u bB o nh d ks) (hx:=hx) (ee.below (nv _ _).drew) d4 bA;have e2:Hid _:=Ov (x:=.mk k m u bB o nh d ks) (hx:=hx) ((ee.below (Cs O AU)).below (nv _ _).drew) d4 bA;rw[b0.out]at e2 e1;have db:Hid _:=eL.out.trans (cp.mono eL.out.size);have e3:=eE.below cp;have e4:w.heap.size<gO.heap.size:=nz _ _ (eE 0 _ rfl);have gr:=cp;have e5:w.heap.size<O.heap.size:=nH e4 cp.size;have e6:∀q,O.frozen? ⟨w.heap.size,q,none⟩=false:=fun q=>(cp.frozen (p:=⟨w.heap.size,q,none⟩) e4).trans (gb q)
 have e7:Hid (∀f∈L,Ah (Ag O.cell? (fun k=>k==w.heap.size)) f.x f.h):=fun f b6=>GK (fun gS gT=>by
  have e:gS=w.heap.size:=by simpa using gT
  subst e;exact LG fun q=>(gr.cell (p:=⟨w.heap.size,q,none⟩) e4).trans (gg q)) ((go.nd f b6).on (Ci _ _))
 clear gl cp b0 eE gb c2 eL gr gg;have a1:F9 O.drew g k m u bB o nh d ks hx bG 0 (.int .i64 bA):=⟨d5,d6,d7,d8,d9,ea,eb,ec,cd⟩;have a8:F9 (O.alloc AU).drew g k m u bB o nh d ks hx bG 0 (.int .i64 bA):=F9.on (w:=O) a1 ((Cs O _).drew);clear d5 d6 d7 d8 d9 ea eb ec cd;have dd:=A7.new O _ rfl CJ 101;have dd:A7 (O.alloc AU).drew O.heap.size 0 _:=fun i v e8=>dd i v e8;have e9:∀q,(O.alloc AU).drew.frozen? ⟨O.heap.size,q,none⟩=false:=fun q=>nQ _ _ _ _ rfl
 have fa:O.heap.size<(O.alloc AU).drew.heap.size:=nz _ _ (dd 0 _ rfl);go_upto_region 2 with fail
 go_region_held3 (fun w'=>F9 w' g k m u bB o nh d ks hx bG 0 (.int .i64 bA)) (first|with_reducible exact a1|with_reducible exact a8|with_reducible exact ay|with_reducible exact bH|with_reducible exact gu)
  (first|(go_at_call 155;refine np e2.out ?_;rintro e I ⟨rfl,Z⟩;have ay:=a8.on Z;have bH:F9 (I.setCells O.heap.size 0 ap) g k m u bB o nh d ks hx bG 0 (.int .i64 bA):=⟨(BP ao).trans ay.1,(BP ao).trans ay.2.1,(BP ao).trans ay.2.2.1,(BP ao).trans ay.2.2.2.1,(BP ao).trans ay.2.2.2.2.1,(BP ao).trans ay.2.2.2.2.2.1,(BP ao).trans ay.2.2.2.2.2.2.1,(BP ao).trans ay.2.2.2.2.2.2.2.1,(BP ed).trans ay.2.2.2.2.2.2.2.2⟩;have bo:=Cd (P:=prog) (dd.below Z) (fun q=>(Z.frozen (p:=⟨O.heap.size,q,none⟩) fa).trans (e9 q)) bC.out.symm da.out)|(go_at_call 155;refine np e1.out ?_;rintro e I ⟨rfl,Z⟩;have ay:=a1.on Z;have bH:=ay.on (Cs I AU);have cf:g≠I.heap.size:=fun e=>(by have:=nz _ _ ay.1;simp only at this;omega);have gU:bG≠I.heap.size:=fun e=>(by have:=nz _ _ (ay.2.2.2.2.2.2.2.2);simp only at this;omega);have gu:F9 ((I.alloc AU).setCells I.heap.size 0 ap) g k m u bB o nh d ks hx bG 0 (.int .i64 bA):=⟨(BP cf).trans bH.1,(BP cf).trans bH.2.1,(BP cf).trans bH.2.2.1,(BP cf).trans bH.2.2.2.1,(BP cf).trans bH.2.2.2.2.1,(BP cf).trans bH.2.2.2.2.2.1,(BP cf).trans bH.2.2.2.2.2.2.1,(BP cf).trans bH.2.2.2.2.2.2.2.1,(BP gU).trans bH.2.2.2.2.2.2.2.2⟩;have bo:=Cd (P:=prog) (A7.new I _ rfl CJ 101) (fun q=>nQ _ _ _ _ rfl) bC.out.symm da.out))
 all_goals
  first
   |(have dm:Hid _:=CX (b:=O.heap.size) (p:=0) ap (nn _) (((Cs O AU).drew).trans (Z.mono ((Cs O AU).drew).size))
     have cr:Hid _:=Dh ap (dd.below Z) bC.out.symm;have cu:∀q,(I.setCells O.heap.size 0 ap).frozen? ⟨O.heap.size,q,none⟩=false:=fun q=>by rw[rm];exact(Z.frozen (p:=⟨O.heap.size,q,none⟩) fa).trans (e9 q)
     generalize I.setCells O.heap.size 0 ap=gv at dm cr cu⊢;obtain⟨H,dn⟩:∃H,H=O.heap.size:=⟨_,rfl⟩;have ef:O.heap.size≤H:=by omega
     rw[←dn]at cr cu⊢;clear dn)
   |(have fb:O.heap.size≤I.heap.size:=Z.size
     have dm:Hid _:=CX (b:=I.heap.size) (p:=0) ap fb (((nv _ O).drew.trans Z).alloc fb AU);have cr:Hid _:=Dh ap (A7.new I _ rfl CJ 101) bC.out.symm;have cu:∀q,((I.alloc AU).setCells I.heap.size 0 ap).frozen? ⟨I.heap.size,q,none⟩=false:=fun q=>by rw[rm];exact nQ _ _ _ _ rfl
     generalize(I.alloc AU).setCells I.heap.size 0 ap=gv at dm cr cu⊢;obtain⟨H,dn⟩:∃H,H=I.heap.size:=⟨_,rfl⟩;have ef:O.heap.size≤H:=by omega
     rw[←dn]at cr cu⊢;clear dn fb)
  try clear gu
  clear a1 a8 ay bH bo Z e2 e1 dd e9 fa b7 ar ao ed gQ gR;obtain⟨fc,eg⟩:∃gV,Hid (B.wk (B.fd (.mk k m u bB o nh d ks) hx bA) nf.length (L.drop 1)=gV):=⟨_,rfl⟩;have gw:Hid (A7 gv H 0 (B.fd (.mk k m u bB o nh d ks) hx bA).l):=by rw[show _=_ from dk];exact cr.out
  have gx:Hid (0≤(B.fd (.mk k m u bB o nh d ks) hx bA).t.m∧(B.fd (.mk k m u bB o nh d ks) hx bA).t.m≤4095):=by
   obtain⟨q,r,dg,dj,_⟩:=c8 0 _ b5;have:=ga 0 q r dg;obtain⟨⟨gW,gX,gY,gZ,g0,g2,g5,g6⟩,g7⟩:=q;cases dj;exact this
  have gy:Hid _:=cu;clear cr dk bC da cu d4;go_wp2_with fail
  go_loopw [33] (fun i wr=>∃(F:Nat) (f:Fd),F≤nf.length∧i=.int .i64 F∧Hid (B.wk f (nf.length-F) (L.drop (F+1))=fc)∧Hid (A7 wr H 0 f.l)∧Hid (Bw O wr)∧Hid (∀q,wr.frozen? ⟨H,q,none⟩=false)∧Hid (0≤f.t.m∧f.t.m≤4095)) (fun i _=>nf.length-(intOf i).toNat)
  case atStart=>exact⟨0,_,nN _,rfl,eg,gw,dm,gy,gx⟩
  case round=>
   obtain⟨F,f,hk,rfl,cx,b9,ej,fd,g8⟩:=hrel;clear gw gx gy dm;by_cases hl:F<nf.length
   ·have hd:decide ((F:Int)<(nf.length:Int))=true:=nF (by omega)
    obtain⟨⟨Q,R,T,V,Y⟩,ek,na,nc,el,em,c9,en,eo⟩:=f;have t0:wr.cell? ⟨H,0,none⟩=some (.bool Q):=b9.out 0 _ rfl;have ep:wr.cell? ⟨H,1,none⟩=some (.int .i64 R):=b9.out 1 _ rfl;have eq:wr.cell? ⟨H,2,none⟩=some (.int .i64 T):=b9.out 2 _ rfl;have t3:wr.cell? ⟨H,3,none⟩=some (.int .i64 V):=b9.out 3 _ rfl;have t4:wr.cell? ⟨H,4,none⟩=some (.bool Y):=b9.out 4 _ rfl;have gz:Hid _:=Zn (w:=wr) (ee.below ej.out) ⟨Q,R,T,V,Y⟩ g8.out;obtain⟨E,dp⟩:∃E,Hid (B.passE ⟨Q,R,T,V,Y⟩=E):=⟨_,rfl⟩;rw[dp.out]at gz;obtain⟨n,er⟩:∃n,nf.length-F=n+1:=⟨nf.length-F-1,by omega⟩;go_wp2_with fail
    refine np gz.out ?_;rintro e az ⟨rfl,es⟩;have ab:=ej.out.trans (es.mono ej.out.size);have bF:=b9.out.below es;by_cases eu:E=0
    ·subst eu
     rw[show Am 0=Value.nilIface from rfl];have gC:H<az.heap.size:=nz _ _ (bF 0 _ rfl);have gD:H<wr.heap.size:=nz _ _ (b9.out 0 _ rfl);have cg:=A7.new az _ rfl CJ 101;have b3:Bw az (az.alloc AU):=Cs az _;have ch:∀q,(az.alloc AU).frozen? ⟨az.heap.size,q,none⟩=false:=fun q=>nQ _ _ _ _ rfl;have dr:az.heap.size≤az.heap.size:=nn _
     have hm:IntKind.i64.wrap ((F:Int)+1)=(F:Int)+1:=EG (by omega) (by omega);have hn:((F:Int)+1).toNat=F+1:=by omega
     go_upto_region 10 with fail
     generalize(az.alloc AU)=ba at cg b3 ch⊢;obtain⟨G,gE⟩:∃G,G=az.heap.size:=⟨_,rfl⟩;rw[←gE]at cg ch dr⊢;have dr:az.heap.size≤G:=by omega
     clear gE;by_cases fe:F+1<L.length
     ·have g9:decide ((F:Int)+1<(L.length:Int))=true:=nF (by omega)
      obtain⟨c3,de⟩:∃c3,L[F+1]? =some c3:=⟨_,nt fe⟩;have ds:L.drop (F+1)=c3::L.drop (F+1+1):=by
       rw[nO fe];rw[nt fe]at de;cases de;rfl
      have ev:=ab.trans (b3.mono ab.size);have bx:=(cb.below ev).nd (F+1) c3 de;have cd:=(cb.below ev).ly (F+1) c3 de;have gG:=gq c3 (nE de);obtain⟨ha,aa,bb⟩:=c3;dsimp only at bx cd gG;obtain⟨bd,be,bf,bg,bi,bk,bl,bn⟩:=ha;have ff:Hid (0≤(B.fd (.mk bd be bf bg bi bk bl bn) aa bb).t.m∧(B.fd (.mk bd be bf bg bi bk bl bn) aa bb).t.m≤4095):=by
       obtain⟨q,r,dg,dj,_⟩:=c8 _ _ de;have:=ga _ q r dg;obtain⟨⟨gW,gX,gY,gZ,g0,g2,g5,g6⟩,g7⟩:=q;cases dj;exact this
      have ao:g≠G:=fun e=>by have:=nz _ _ (cb.nd 0 _ b5).1;simp only at this;have:=ab.size;omega
      have ed:bG≠G:=fun e=>by have:=nz _ _ (cb.ly 0 _ b5);simp only at this;have:=ab.size;omega
      have a1:ba.drew.cell? ⟨g,(F+1)*8,none⟩=some (.int .i64 bd)∧ba.drew.cell? ⟨g,(F+1)*8+1,none⟩=some (.int .i64 be)∧ba.drew.cell? ⟨g,(F+1)*8+2,none⟩=some (.int .i64 bf)∧ba.drew.cell? ⟨g,(F+1)*8+3,none⟩=some (.int .i64 bg)∧ba.drew.cell? ⟨g,(F+1)*8+4,none⟩=some (.bool bi)∧ba.drew.cell? ⟨g,(F+1)*8+5,none⟩=some (.slice aa.aa bk.length aa.ca)∧ba.drew.cell? ⟨g,(F+1)*8+6,none⟩=some (.string bl)∧ba.drew.cell? ⟨g,(F+1)*8+7,none⟩=some (.slice aa.ak bn.length aa.ck)∧ba.drew.cell? ⟨bG,F+1,none⟩=some (.int .i64 bb):=⟨bx.1,bx.2.1,bx.2.2.1,bx.2.2.2.1,bx.2.2.2.2.1,bx.2.2.2.2.2.1,bx.2.2.2.2.2.2.1,bx.2.2.2.2.2.2.2,cd⟩;clear bx cd;obtain⟨ak,du⟩:∃ak:List Value,FX (Fd.l (B.fd (.mk bd be bf bg bi bk bl bn) aa bb)) ak:=⟨_,rfl⟩;have ar:ak.length=21:=by rw[←(show _=_ from du)];exact D4 _
      have bC:Hid (ak.length=21):=ar;have da:Hid (∀v∈ak,v.oneCell'=true):=by show∀v∈ak,_;rw[←(show _=_ from du)];exact Ej _
      have b7:=BV ak;unfold Value.cells at b7;have b0:Hid ((B.fd (.mk bd be bf bg bi bk bl bn) aa bb).v=BT ak):=by show _=_;unfold Fd.v BT;rw[show _=_ from du]
      have fg:Hid _:=Ov (x:=.mk bd be bf bg bi bk bl bn) (hx:=aa) ((ee.below ev).below (nv _ _).drew) gG bb;rw[b0.out]at fg;have eB:A7 ba.drew G 0 _:=fun i v e8=>cg i v e8;have fh:∀q,ba.drew.frozen? ⟨G,q,none⟩=false:=fun q=>ch q
      have fl:G<ba.drew.heap.size:=nz _ _ (eB 0 _ rfl);have ho:(F:Int)+1<(L.length:Int):=by omega
      have hp:(0:Int)≤(F:Int)+1:=by omega
      clear b0 cg ch;go_upto_region 12 with fail
      go_region_held3 (fun w'=>w'.cell? ⟨g,(F+1)*8,none⟩=some (.int .i64 bd)∧w'.cell? ⟨g,(F+1)*8+1,none⟩=some (.int .i64 be)∧w'.cell? ⟨g,(F+1)*8+2,none⟩=some (.int .i64 bf)∧w'.cell? ⟨g,(F+1)*8+3,none⟩=some (.int .i64 bg)∧w'.cell? ⟨g,(F+1)*8+4,none⟩=some (.bool bi)∧w'.cell? ⟨g,(F+1)*8+5,none⟩=some (.slice aa.aa bk.length aa.ca)∧w'.cell? ⟨g,(F+1)*8+6,none⟩=some (.string bl)∧w'.cell? ⟨g,(F+1)*8+7,none⟩=some (.slice aa.ak bn.length aa.ck)∧w'.cell? ⟨bG,F+1,none⟩=some (.int .i64 bb)) (first|with_reducible exact a1|with_reducible exact a8|with_reducible exact ay) (first|(go_at_call 155;refine np fg.out ?_;rintro e I ⟨rfl,Z⟩;have a8:I.cell? ⟨g,(F+1)*8,none⟩=some (.int .i64 bd)∧I.cell? ⟨g,(F+1)*8+1,none⟩=some (.int .i64 be)∧I.cell? ⟨g,(F+1)*8+2,none⟩=some (.int .i64 bf)∧I.cell? ⟨g,(F+1)*8+3,none⟩=some (.int .i64 bg)∧I.cell? ⟨g,(F+1)*8+4,none⟩=some (.bool bi)∧I.cell? ⟨g,(F+1)*8+5,none⟩=some (.slice aa.aa bk.length aa.ca)∧I.cell? ⟨g,(F+1)*8+6,none⟩=some (.string bl)∧I.cell? ⟨g,(F+1)*8+7,none⟩=some (.slice aa.ak bn.length aa.ck)∧I.cell? ⟨bG,F+1,none⟩=some (.int .i64 bb):=⟨Af Z a1.1,Af Z a1.2.1,Af Z a1.2.2.1,Af Z a1.2.2.2.1,Af Z a1.2.2.2.2.1,Af Z a1.2.2.2.2.2.1,Af Z a1.2.2.2.2.2.2.1,Af Z a1.2.2.2.2.2.2.2.1,Af Z a1.2.2.2.2.2.2.2.2⟩;have ay:(I.setCells G 0 ak).cell? ⟨g,(F+1)*8,none⟩=some (.int .i64 bd)∧(I.setCells G 0 ak).cell? ⟨g,(F+1)*8+1,none⟩=some (.int .i64 be)∧(I.setCells G 0 ak).cell? ⟨g,(F+1)*8+2,none⟩=some (.int .i64 bf)∧(I.setCells G 0 ak).cell? ⟨g,(F+1)*8+3,none⟩=some (.int .i64 bg)∧(I.setCells G 0 ak).cell? ⟨g,(F+1)*8+4,none⟩=some (.bool bi)∧(I.setCells G 0 ak).cell? ⟨g,(F+1)*8+5,none⟩=some (.slice aa.aa bk.length aa.ca)∧(I.setCells G 0 ak).cell? ⟨g,(F+1)*8+6,none⟩=some (.string bl)∧(I.setCells G 0 ak).cell? ⟨g,(F+1)*8+7,none⟩=some (.slice aa.ak bn.length aa.ck)∧(I.setCells G 0 ak).cell? ⟨bG,F+1,none⟩=some (.int .i64 bb):=⟨(BP ao).trans a8.1,(BP ao).trans a8.2.1,(BP ao).trans a8.2.2.1,(BP ao).trans a8.2.2.2.1,(BP ao).trans a8.2.2.2.2.1,(BP ao).trans a8.2.2.2.2.2.1,(BP ao).trans a8.2.2.2.2.2.2.1,(BP ao).trans a8.2.2.2.2.2.2.2.1,(BP ed).trans a8.2.2.2.2.2.2.2.2⟩;have bo:=Cd (P:=prog) (eB.below Z) (fun q=>(Z.frozen (p:=⟨G,q,none⟩) fl).trans (fh q)) bC.out.symm da.out))
      have a6:Hid _:=Dh ak (eB.below Z) bC.out.symm;have bp:Bw az (I.setCells G 0 ak):=CX ak dr (b3.drew.trans (Z.mono b3.drew.size));have bs:Hid (∀q,(I.setCells G 0 ak).frozen? ⟨G,q,none⟩=false):=fun q=>by rw[rm];exact(Z.frozen (p:=⟨G,q,none⟩) fl).trans (fh q)
      generalize I.setCells G 0 ak=J at a6 bp bs⊢;have a6:Hid (A7 J G 0 (B.fd (.mk bd be bf bg bi bk bl bn) aa bb).l):=by rw[show _=_ from du];exact a6.out
      have fr:Hid (B.wk {(B.fd (.mk bd be bf bg bi bk bl bn) aa bb)with dir:=⟨Q,R,T,V,Y⟩} (nf.length-(F+1)) (L.drop (F+1+1))=fc):=by
       show _=_;rw[←cx.out,er,ds,Kg (f:=⟨⟨Q,R,T,V,Y⟩,ek,na,nc,el,em,c9,en,eo⟩) dp.out,show nf.length-(F+1)=n by omega]
      clear a1 a8 ay bo Z eB fh fl fg b7 ar bC da du cx b3 ev ds;obtain⟨t0,ep,eq,t3,t4⟩:J.cell? ⟨H,0,none⟩=some (.bool Q)∧J.cell? ⟨H,1,none⟩=some (.int .i64 R)∧J.cell? ⟨H,2,none⟩=some (.int .i64 T)∧J.cell? ⟨H,3,none⟩=some (.int .i64 V)∧J.cell? ⟨H,4,none⟩=some (.bool Y):=⟨Af bp (bF 0 _ rfl),Af bp (bF 1 _ rfl),Af bp (bF 2 _ rfl),Af bp (bF 3 _ rfl),Af bp (bF 4 _ rfl)⟩;obtain⟨z0,fs,fv,z3,z4⟩:J.cell? ⟨G,5,none⟩=some (.bool false)∧J.cell? ⟨G,6,none⟩=some (.int .i64 0)∧J.cell? ⟨G,7,none⟩=some (.int .i64 0)∧J.cell? ⟨G,8,none⟩=some (.int .i64 0)∧J.cell? ⟨G,9,none⟩=some (.bool false):=⟨a6.out 5 _ rfl,a6.out 6 _ rfl,a6.out 7 _ rfl,a6.out 8 _ rfl,a6.out 9 _ rfl⟩;have fx:=bs.out 5;have fY:=bs.out 6;have f0:=bs.out 7;have f1:=bs.out 8;have f2:=bs.out 9;go_upto_region 16 with fail
      obtain⟨cs,ad⟩:∃cs:List Value,FX (Fd.l {(B.fd (.mk bd be bf bg bi bk bl bn) aa bb)with dir:=⟨Q,R,T,V,Y⟩}) cs:=⟨_,rfl⟩;have ar:cs.length=21:=by rw[←(show _=_ from ad)];exact D4 _
      have bu:∀v∈cs,v.oneCell'=true:=by rw[←(show _=_ from ad)];exact Ej _
      have c4:A7 (J.setCells G 5 [.bool Q,.int .i64 R,.int .i64 T,.int .i64 V,.bool Y]) G 0 cs:=by
       rw[←(show _=_ from ad)];exact Uv (f:=(B.fd (.mk bd be bf bg bi bk bl bn) aa bb)) ⟨Q,R,T,V,Y⟩ a6.out
      have b1:Bw az (J.setCells G 5 [.bool Q,.int .i64 R,.int .i64 T,.int .i64 V,.bool Y]):=CX _ dr bp;have dw:∀q,(J.setCells G 5 [.bool Q,.int .i64 R,.int .i64 T,.int .i64 V,.bool Y]).frozen? ⟨G,q,none⟩=false:=fun q=>by rw[rm];exact bs.out q
      have cl:(((((J.setCell ⟨G,5,none⟩ (.bool Q)).setCell ⟨G,6,none⟩ (.int .i64 R)).setCell ⟨G,7,none⟩ (.int .i64 T)).setCell ⟨G,8,none⟩ (.int .i64 V)).setCell ⟨G,9,none⟩ (.bool Y))=J.setCells G 5 [.bool Q,.int .i64 R,.int .i64 T,.int .i64 V,.bool Y]:=rfl;rw[cl];clear cl t0 ep eq t3 t4 z0 fs fv z3 z4 fx fY f0 f1 f2;generalize J.setCells G 5 [.bool Q,.int .i64 R,.int .i64 T,.int .i64 V,.bool Y]=b4 at c4 b1 dw⊢;have c5:=bF.below b1;have dx:∀q,b4.frozen? ⟨H,q,none⟩=false:=fun q=>(b1.frozen (p:=⟨H,q,none⟩) gC).trans ((es.frozen (p:=⟨H,q,none⟩) gD).trans (fd.out q));refine rU ?_
      refine wpList_load_mid rfl _ _ rfl _ _ rfl cs _ c4 rfl rfl (by rw[ar];rfl) ?_;simp only[tk];have bo:=Cd (P:=prog) c5 dx (by rw[ar];exact D4 _) bu;have a7:Hid _:=Dh cs c5 (by rw[ar];exact D4 _);have bv:Hid _:=CX (b:=H) (p:=0) cs ef (ab.trans (b1.mono ab.size));have dy:Hid (∀q,(b4.setCells H 0 cs).frozen? ⟨H,q,none⟩=false):=fun q=>by rw[rm];exact dx q
      generalize b4.setCells H 0 cs=f3 at bo a7 bv dy;have f4:Hid (A7 f3 H 0 (Fd.l {(B.fd (.mk bd be bf bg bi bk bl bn) aa bb)with dir:=⟨Q,R,T,V,Y⟩})):=by rw[show _=_ from ad];exact a7.out
      clear c5 c4 b1 dw bu a7;go_wp2;go_roundw
      case rel=>exact⟨F+1,{(B.fd (.mk bd be bf bg bi bk bl bn) aa bb)with dir:=⟨Q,R,T,V,Y⟩},by omega,by go_num,fr,f4,bv,dy,ff⟩
      case measure=>simp[intOf];omega
     ·have g9:decide ((F:Int)+1<(L.length:Int))=false:=nB (by omega)
      have ds:L.drop (F+1)=[]:=List.drop_eq_nil_of_le (by omega);by_cases hq:F+1<nf.length
      ·have hc:decide ((F:Int)+1<(nf.length:Int))=true:=nF (by omega)
       have ab:=ab.trans (b3.mono ab.size);clear cg b3 ch;obtain⟨c0,ad⟩:∃cs:List Value,FX CJ cs:=⟨_,rfl⟩;have c6:c0.length=21:=by rw[←(show _=_ from ad)];rfl
       have bC:Hid (c0.length=21):=c6;have bu:∀v∈c0,v.oneCell'=true:=by
        rw[←(show _=_ from ad)];simp[Value.oneCell']
       have b2:=e3.below ab;have bo:=Cd (P:=prog) b2 (fun q=>(ab.frozen (p:=⟨w.heap.size,q,none⟩) e5).trans (e6 q)) c6.symm bu;have a7:Hid _:=Dh c0 b2 c6.symm;have bv:Hid _:=CX (b:=w.heap.size) (p:=0) c0 (nn _) (db.out.trans (ab.mono db.out.size));have co:Hid (AR (Ag O.cell? (fun k=>k==w.heap.size)) (ba.setCells w.heap.size 0 c0).cell?):=Jy ab;generalize ba.setCells w.heap.size 0 c0=dz at bo a7 bv co;have d0:=run_loadVar_mid (P:=prog) dz w.heap.size 0 101 c0 _ a7.out rfl rfl (by rw[bC.out];rfl);have he:Value.agg #[.bool false,.int .i64 0,.int .i64 0,.int .i64 0,.bool false,.bool false,.int .i64 0,.int .i64 0,.int .i64 0,.bool false,.slice none 0 0,.bool false,.int .i64 0,.int .i64 0,.int .i64 0,.int .i64 0,.bool false,.slice none 0 0,.string ⟨#[]⟩,.slice none 0 0,.int .i64 0]=BT c0:=by rw[←(show _=_ from ad)];rfl
       have b7:=BV c0;unfold Value.cells at b7;have b0:Hid (Ds.v=.agg c0.toArray):=nW (fun l:List Value=>Value.agg l.toArray) (show CJ=c0 from ad);clear bu b2;go_wp2;refine nG (v:=.tuple #[.agg c0.toArray,.iface 78 (.int .i64 5)]) ?_ rfl ⟨⟨L,⟨_,b5,?_⟩,c8,d3,fun f b6=>(e7.out f b6).on co.out⟩,bv.out⟩
       ·simp[results,results117,asAddr,d0]
       ·rw[eg.out,←cx.out,er,ds,Mn (f:=⟨⟨Q,R,T,V,Y⟩,ek,na,nc,el,em,c9,en,eo⟩) dp.out,nD (by omega),JR,b0.out];rfl
      ·have hc:decide ((F:Int)+1<(nf.length:Int))=false:=nB (by omega)
       obtain⟨J,gH⟩:∃J,J=ba:=⟨_,rfl⟩;rw[←gH]at cg b3 ch⊢;clear gH;have bp:=b3;have a6:Hid (A7 J G 0 Ds.l):=cg;have bs:Hid _:=ch;have ff:Hid (0≤Ds.t.m∧Ds.t.m≤4095):=⟨by decide,by decide⟩;have fr:Hid (B.wk {Ds with dir:=⟨Q,R,T,V,Y⟩} (nf.length-(F+1)) (L.drop (F+1+1))=fc):=by
        show _=_;rw[←cx.out,er,ds,Mn (f:=⟨⟨Q,R,T,V,Y⟩,ek,na,nc,el,em,c9,en,eo⟩) dp.out,nC (by omega),show nf.length-(F+1)=0 by omega,Bx.wk]
       clear cg b3 ch cx;obtain⟨t0,ep,eq,t3,t4⟩:J.cell? ⟨H,0,none⟩=some (.bool Q)∧J.cell? ⟨H,1,none⟩=some (.int .i64 R)∧J.cell? ⟨H,2,none⟩=some (.int .i64 T)∧J.cell? ⟨H,3,none⟩=some (.int .i64 V)∧J.cell? ⟨H,4,none⟩=some (.bool Y):=⟨Af bp (bF 0 _ rfl),Af bp (bF 1 _ rfl),Af bp (bF 2 _ rfl),Af bp (bF 3 _ rfl),Af bp (bF 4 _ rfl)⟩;obtain⟨z0,fs,fv,z3,z4⟩:J.cell? ⟨G,5,none⟩=some (.bool false)∧J.cell? ⟨G,6,none⟩=some (.int .i64 0)∧J.cell? ⟨G,7,none⟩=some (.int .i64 0)∧J.cell? ⟨G,8,none⟩=some (.int .i64 0)∧J.cell? ⟨G,9,none⟩=some (.bool false):=⟨a6.out 5 _ rfl,a6.out 6 _ rfl,a6.out 7 _ rfl,a6.out 8 _ rfl,a6.out 9 _ rfl⟩;have fx:=bs.out 5;have fY:=bs.out 6;have f0:=bs.out 7;have f1:=bs.out 8;have f2:=bs.out 9;go_upto_region 16 with fail
       obtain⟨cs,ad⟩:∃cs:List Value,FX (Fd.l {Ds with dir:=⟨Q,R,T,V,Y⟩}) cs:=⟨_,rfl⟩;have ar:cs.length=21:=by rw[←(show _=_ from ad)];exact D4 _
       have bu:∀v∈cs,v.oneCell'=true:=by rw[←(show _=_ from ad)];exact Ej _
       have c4:A7 (J.setCells G 5 [.bool Q,.int .i64 R,.int .i64 T,.int .i64 V,.bool Y]) G 0 cs:=by
        rw[←(show _=_ from ad)];exact Uv (f:=Ds) ⟨Q,R,T,V,Y⟩ a6.out
       have b1:Bw az (J.setCells G 5 [.bool Q,.int .i64 R,.int .i64 T,.int .i64 V,.bool Y]):=CX _ dr bp;have dw:∀q,(J.setCells G 5 [.bool Q,.int .i64 R,.int .i64 T,.int .i64 V,.bool Y]).frozen? ⟨G,q,none⟩=false:=fun q=>by rw[rm];exact bs.out q
       have cl:(((((J.setCell ⟨G,5,none⟩ (.bool Q)).setCell ⟨G,6,none⟩ (.int .i64 R)).setCell ⟨G,7,none⟩ (.int .i64 T)).setCell ⟨G,8,none⟩ (.int .i64 V)).setCell ⟨G,9,none⟩ (.bool Y))=J.setCells G 5 [.bool Q,.int .i64 R,.int .i64 T,.int .i64 V,.bool Y]:=rfl;rw[cl];clear cl t0 ep eq t3 t4 z0 fs fv z3 z4 fx fY f0 f1 f2;generalize J.setCells G 5 [.bool Q,.int .i64 R,.int .i64 T,.int .i64 V,.bool Y]=b4 at c4 b1 dw⊢;have c5:=bF.below b1;have dx:∀q,b4.frozen? ⟨H,q,none⟩=false:=fun q=>(b1.frozen (p:=⟨H,q,none⟩) gC).trans ((es.frozen (p:=⟨H,q,none⟩) gD).trans (fd.out q));refine rU ?_
       refine wpList_load_mid rfl _ _ rfl _ _ rfl cs _ c4 rfl rfl (by rw[ar];rfl) ?_;simp only[tk];have bo:=Cd (P:=prog) c5 dx (by rw[ar];exact D4 _) bu;have a7:Hid _:=Dh cs c5 (by rw[ar];exact D4 _);have bv:Hid _:=CX (b:=H) (p:=0) cs ef (ab.trans (b1.mono ab.size));have dy:Hid (∀q,(b4.setCells H 0 cs).frozen? ⟨H,q,none⟩=false):=fun q=>by rw[rm];exact dx q
       generalize b4.setCells H 0 cs=f3 at bo a7 bv dy;have f4:Hid (A7 f3 H 0 (Fd.l {Ds with dir:=⟨Q,R,T,V,Y⟩})):=by rw[show _=_ from ad];exact a7.out
       clear c5 c4 b1 dw bu a7;go_wp2;go_roundw
       case rel=>exact⟨F+1,{Ds with dir:=⟨Q,R,T,V,Y⟩},by omega,by go_num,fr,f4,bv,dy,ff⟩
       case measure=>simp[intOf];omega
    ·rw[AG rfl eu]
     obtain⟨c0,ad⟩:∃cs:List Value,FX CJ cs:=⟨_,rfl⟩;have c6:c0.length=21:=by rw[←(show _=_ from ad)];rfl
     have bC:Hid (c0.length=21):=c6;have bu:∀v∈c0,v.oneCell'=true:=by
      rw[←(show _=_ from ad)];simp[Value.oneCell']
     have b2:=e3.below ab;have bo:=Cd (P:=prog) b2 (fun q=>(ab.frozen (p:=⟨w.heap.size,q,none⟩) e5).trans (e6 q)) c6.symm bu;have a7:Hid _:=Dh c0 b2 c6.symm;have bv:Hid _:=CX (b:=w.heap.size) (p:=0) c0 (nn _) (db.out.trans (ab.mono db.out.size));have co:Hid (AR (Ag O.cell? (fun k=>k==w.heap.size)) (az.setCells w.heap.size 0 c0).cell?):=Jy ab;generalize az.setCells w.heap.size 0 c0=dz at bo a7 bv co;have d0:=run_loadVar_mid (P:=prog) dz w.heap.size 0 101 c0 _ a7.out rfl rfl (by rw[bC.out];rfl);have he:Value.agg #[.bool false,.int .i64 0,.int .i64 0,.int .i64 0,.bool false,.bool false,.int .i64 0,.int .i64 0,.int .i64 0,.bool false,.slice none 0 0,.bool false,.int .i64 0,.int .i64 0,.int .i64 0,.int .i64 0,.bool false,.slice none 0 0,.string ⟨#[]⟩,.slice none 0 0,.int .i64 0]=BT c0:=by rw[←(show _=_ from ad)];rfl
     have b7:=BV c0;unfold Value.cells at b7;have b0:Hid (Ds.v=.agg c0.toArray):=nW (fun l:List Value=>Value.agg l.toArray) (show CJ=c0 from ad);clear bu b2;go_wp2;refine nG (v:=.tuple #[.agg c0.toArray,.iface 78 (.int .i64 E)]) ?_ rfl ⟨⟨L,⟨_,b5,?_⟩,c8,d3,fun f b6=>(e7.out f b6).on co.out⟩,bv.out⟩
     ·simp[results,results117,asAddr,d0]
     ·rw[eg.out,←cx.out,er,Kl (f:=⟨⟨Q,R,T,V,Y⟩,ek,na,nc,el,em,c9,en,eo⟩) dp.out eu,JR,b0.out,AG rfl eu]
   ·have hd:decide ((F:Int)<(nf.length:Int))=false:=nB (by omega)
    have hf:wr.cell? ⟨H,10,none⟩=some (.slice f.na f.nf.length f.nc):=b9.out 10 _ rfl;have hg:=fd.out 10;go_upto_region 19 with fail
    obtain⟨cs,ad⟩:∃cs:List Value,FX (Fd.l {f with na:=an,nc:=nj,nf:=nf}) cs:=⟨_,rfl⟩;have ar:cs.length=21:=by rw[←(show _=_ from ad)];exact D4 _
    have bu:∀v∈cs,v.oneCell'=true:=by rw[←(show _=_ from ad)];exact Ej _
    have gI:A7 (wr.setCells H 10 [.slice an nf.length nj]) H 0 cs:=by rw[←(show _=_ from ad)];exact Yj an nj nf b9.out
    have ab:Bw O (wr.setCells H 10 [.slice an nf.length nj]):=CX _ ef ej.out;have cl:wr.setCell ⟨H,10,none⟩ (.slice an nf.length nj)=wr.setCells H 10 [.slice an nf.length nj]:=rfl;rw[cl];clear cl hf hg;generalize wr.setCells H 10 [.slice an nf.length nj]=b4 at gI ab⊢;refine rU ?_;refine wpList_load_mid rfl _ _ rfl _ _ rfl cs _ gI rfl rfl (by rw[ar];rfl) ?_;simp only[tk];have b2:=e3.below ab;have bo:=Cd (P:=prog) b2 (fun q=>(ab.frozen (p:=⟨w.heap.size,q,none⟩) e5).trans (e6 q)) (by rw[ar];rfl) bu;have a7:Hid _:=Dh cs b2 (by rw[ar];rfl);have bv:Hid _:=CX (b:=w.heap.size) (p:=0) cs (nn _) (db.out.trans (ab.mono db.out.size));have co:Hid (AR (Ag O.cell? (fun k=>k==w.heap.size)) (b4.setCells w.heap.size 0 cs).cell?):=Jy ab;generalize b4.setCells w.heap.size 0 cs=dz at bo a7 bv co;have d0:=run_loadVar_mid (P:=prog) dz w.heap.size 0 101 cs _ a7.out rfl rfl (by rw[ar];rfl);have b0:Hid (Fd.v {f with na:=an,nc:=nj,nf:=nf}=.agg cs.toArray):=nW (fun l:List Value=>Value.agg l.toArray) (show _=cs from ad);clear bu b2;go_wp2;refine nG (v:=.tuple #[.agg cs.toArray,.nilIface]) ?_ rfl ⟨⟨L,⟨_,b5,?_⟩,c8,d3,fun f b6=>(e7.out f b6).on co.out⟩,bv.out⟩
    ·simp[results,results117,asAddr,d0]
    ·rw[eg.out,←cx.out,show nf.length-F=0 by omega,Bx.wk,JR,b0.out]
     rfl
def MA(w:World)(a:Option Addr)(xs:List BA):Prop:=
 xs=[]∨∃b F,a=some ⟨b,F,none⟩∧∀i x,xs[i]? =some x→w.cell? ⟨b,F+i,none⟩=some (.string x)
def FM(xs:List BA):Int:=if xs.all AY=true then(if 6<xs.length then 2 else 0)else 4
theorem Yw{f:BA→Bool}{l:List BA}{k:Nat}{b:BA}(hb:l[k]? =some b)(h:(l.take k).all f=true)(F:f b=true):(l.take (k+1)).all f=true:=by
 rw[rv,hb];simp at h⊢;exact⟨h,F⟩
theorem aq{f:BA→Bool}{l:List BA}{k:Nat}{b:BA}(hb:l[k]? =some b)(F:f b=false):l.all f=false:=by
 have G:b∈l:=nE hb;cases h:l.all f with
 |false=>rfl
 |true=>rw[List.all_eq_true]at h;rw[h b G]at F;cases F
theorem WL(a:Option Addr)(cap:Nat)(xs:List BA)(w:World)(Y:xs.length≤4611686018427387904)(h:MA w a xs):
 Calls prog 153 #[.slice a xs.length cap] w fun e w'=>e=.returned (Am (FM xs))∧w=w':=by
 go_enter func153,ntmps153;go_wp2;go_loop [7] (fun i=>∃k:Nat,k≤xs.length∧i=iN k∧Hid ((xs.take k).all AY=true)) (fun i=>xs.length-(intOf i).toNat)
 case atStart=>exact⟨0,nN _,rfl,rfl⟩
 case round=>
  obtain⟨k,Z,rfl,H⟩:=hrel;by_cases I:k<xs.length
  ·rcases h with rfl|⟨b,aa,rfl,J⟩
   ·simp at I
   ·obtain⟨x,hx⟩:∃x,xs[k]? =some x:=⟨xs[k],by simp[I]⟩
    have O:=hid hx;have ab:=J k x hx;clear hx J;obtain⟨t,Q⟩:∃t,AY x=t:=⟨_,rfl⟩;have F:=hid Q;clear Q;go_wp2_with fail
    refine(Ge _ _).mono ?_;rintro e w' ⟨rfl,rfl⟩;rw[F.out];cases t
    ·go_wp2
     go_ret;exact⟨Cp (AG (by unfold FM;rw[nC (by rw[aq O.out F.out];decide)]) (by decide)).symm,rfl⟩
    ·go_wp2
     go_round
     case rel=>exact⟨k+1,by omega,by go_num,Yw O.out H.out F.out⟩
     case measure=>simp[intOf];omega
  ·have R:Hid (xs.all AY=true):=by
    show _=_;have:=H.out;rw[n1 (by omega)]at this;exact this
   by_cases T:6<xs.length
   ·have V:decide (6<(xs.length:Int))=true:=nF (by omega)
    have G:Hid (FM xs=2):=by show _=_;unfold FM;rw[nD R.out,nD T]
    go_wp2;go_ret;exact⟨Cp (AG G.out (by decide)).symm,rfl⟩
   ·have V:decide (6<(xs.length:Int))=false:=nB (by omega)
    have G:Hid (FM xs=0):=by show _=_;unfold FM;rw[nD R.out,nC T]
    go_wp2;go_ret;exact⟨Cp (Co G.out).symm,rfl⟩
end Go.Proofs.YtofhphibahcniaaGreatDoor
namespace Go.Proofs.YtofhphibahcniaaGreatDoor
open Go.Shelf Go.Proofs.Tryz
def Tryz.lays146_ren:Go.Shelf.Ren:=⟨fun|146=>152|221=>180|268=>196|138=>197|143=>198|195=>209|197=>210|218=>211|219=>193|260=>216|217=>205|225=>206|224=>207|267=>208|266=>214|314=>215|n=>n,fun|9=>9|31=>42|3=>3|4=>4|0=>0|105=>255|21=>21|5=>5|46=>91|119=>261|139=>264|138=>263|146=>259|51=>241|n=>n,fun|1=>0|3=>1|4=>2|n=>n⟩
theorem Tryz.lays146:Go.Proofs.Lays.n146 prog Tryz.lays146_ren:={
 mixed:=by kernel_rfl
 f138:=func197.trans (nW some (by kernel_rfl))
 f143:=func198.trans (nW some (by kernel_rfl))
 f146:=func152.trans (nW some (by kernel_rfl))
 f195:=func209.trans (nW some (by kernel_rfl))
 f197:=func210.trans (nW some (by kernel_rfl))
 f217:=func205.trans (nW some (by kernel_rfl))
 f218:=func211.trans (nW some (by kernel_rfl))
 f219:=func193.trans (nW some (by kernel_rfl))
 f221:=func180.trans (nW some (by kernel_rfl))
 f224:=func207.trans (nW some (by kernel_rfl))
 f225:=func206.trans (nW some (by kernel_rfl))
 f260:=func216.trans (nW some (by kernel_rfl))
 f266:=func214.trans (nW some (by kernel_rfl))
 f267:=func208.trans (nW some (by kernel_rfl))
 f268:=func196.trans (nW some (by kernel_rfl))
 f314:=func215.trans (nW some (by kernel_rfl))
 t0:=underlying0
 a0:=Tryz.isAgg0
 z0:=Tryz.sizeOf0
 v0:=Tryz.zeroValue0
 t3:=underlying3
 a3:=Tryz.isAgg3
 z3:=Tryz.sizeOf3
 v3:=Tryz.zeroValue3
 t4:=underlying4
 a4:=Tryz.isAgg4
 z4:=Tryz.sizeOf4
 v4:=Tryz.zeroValue4
 t5:=underlying5
 a5:=Tryz.isAgg5
 z5:=Tryz.sizeOf5
 v5:=Tryz.zeroValue5
 t9:=underlying9
 a9:=Tryz.isAgg9
 z9:=Tryz.sizeOf9
 v9:=Tryz.zeroValue9
 t21:=underlying21
 a21:=Tryz.isAgg21
 z21:=Tryz.sizeOf21
 v21:=Tryz.zeroValue21
 t31:=underlying42
 a31:=Tryz.isAgg42
 z31:=Tryz.sizeOf42
 v31:=Tryz.zeroValue42
 t46:=underlying91
 a46:=Tryz.isAgg91
 z46:=Tryz.sizeOf91
 v46:=Tryz.zeroValue91
 t51:=underlying241
 a51:=Tryz.isAgg241
 z51:=Tryz.sizeOf241
 v51:=Tryz.zeroValue241
 t105:=underlying255
 a105:=Tryz.isAgg255
 z105:=Tryz.sizeOf255
 v105:=Tryz.zeroValue255
 t119:=underlying261
 a119:=Tryz.isAgg261
 z119:=Tryz.sizeOf261
 t138:=underlying263
 a138:=Tryz.isAgg263
 z138:=Tryz.sizeOf263
 v138:=Tryz.zeroValue263
 t139:=underlying264
 a139:=Tryz.isAgg264
 z139:=Tryz.sizeOf264
 v139:=Tryz.zeroValue264
 t146:=underlying259
 a146:=Tryz.isAgg259
 z146:=Tryz.sizeOf259
 v146:=Tryz.zeroValue259
 g1:=by kernel_rfl
 g3:=by kernel_rfl
 g4:=by kernel_rfl}
open Go.RowKit Go.Lib in
theorem Tryz.strings_Split(s F:BA)(m:Int)(w:World)(G:s.size<4294967281)(H:w.cell? ⟨0,0,none⟩=some (.int .i64 m))(I:1≤F.size):
 Calls prog 152 #[.string s,.string F] w fun e w'=>
  e=.returned (.slice (some ⟨w.heap.size,0,none⟩) (Lib.countB s F+1) (Lib.countB s F+1))∧w'=w.alloc (.cells ((Lib.splitB F 0 (Lib.countB s F) s).map Value.string).toArray 9):=Any.strings_Split Tryz.lays146 (by kernel_rfl) s F m w G H I
end Go.Proofs.YtofhphibahcniaaGreatDoor
namespace Go.Proofs.YtofhphibahcniaaGreatDoor
open Go.RowKit Go.Proofs.Tryz
def EX:List UInt8→List (List UInt8)
 |[]=>[[]]
 |c::l=>if c=47 then []::EX l else match EX l with
  |x::xs=>(c::x)::xs
  |[]=>[[c]]
theorem YF:∀l,EX l≠[]
 |[]=>by simp[EX]
 |c::l=>by
  unfold EX;split
  ·simp
  ·split<;>simp
theorem PY(l:List UInt8):Lib.index (47::l) [47]=0:=by rw[Lib.index];simp[List.isPrefixOf]
theorem Y9(b:UInt8)(l:List UInt8)(h:b≠47):Lib.index (b::l) [47]=if Lib.index l [47]==-1 then-1 else Lib.index l [47]+1:=by
 have F:([47]:List UInt8).isPrefixOf (b::l)=false:=by simp[List.isPrefixOf,Ne.symm h]
 rw[Lib.index,F];simp
theorem Rb:∀l:List UInt8,Lib.splitK [47] 0 (Lib.count l [47]) l=EX l
 |[]=>by rw[Lib.count_miss (by simp[Lib.index])];rfl
 |b::l=>by
  have F:=Rb l;by_cases h:b=47
  ·subst h
   rw[Lib.count_cons_eq,Nat.add_comm,Lib.splitK,nC (by rw[PY];decide),PY];simp[EX,F]
  ·rw[Lib.count_cons_ne b 47 l h]
   cases hn:Lib.count l [47]with
   |zero=>
    rw[hn]at F;have e:EX l=[l]:=F.symm;simp[Lib.splitK,EX,h,e]
   |succ k=>
    rw[hn]at F;have I:¬Lib.index l [47]=-1:=fun e=>by rw[Lib.count_miss e]at hn;cases hn
    have J:=Lib.index_ge l [47];obtain⟨j,G⟩:∃j:Nat,Lib.index l [47]=j:=⟨(Lib.index l [47]).toNat,by omega⟩;have H:Lib.index (b::l) [47]=((j+1:Nat):Int):=by rw[Y9 b l h,nC (fun e=>I (beq_iff_eq.1 e)),G];omega
    rw[Lib.splitK,nC (by rw[G];intro e;have:=beq_iff_eq.1 e;omega),G]at F;rw[Lib.splitK,nC (by rw[H];intro e;have:=beq_iff_eq.1 e;omega),H];simp only[EX,h,if_false,←F];simp
def PA(l:List UInt8):BA:=⟨l.toArray⟩
theorem aQ(s:BA):PA s.data.toList=s:=by cases s;rfl
theorem cw{xs:List BA}{L:List (List UInt8)}(h:xs.map (·.data.toList)=L):xs=L.map PA:=by
 subst h;rw[r4];conv=>lhs;rw[←List.map_id xs]
 apply List.map_congr_left;intro x _;exact(aQ x).symm
def EL(l:List UInt8):List BA:=(EX l).map PA
theorem Rj(s:BA):Lib.splitB ⟨#[47]⟩ 0 (Lib.countB s ⟨#[47]⟩) s=EL s.data.toList:=by
 refine cw ?_;rw[Lib.splitB_data];exact Rb s.data.toList
theorem WR(s:BA):(EL s.data.toList).length=Lib.countB s ⟨#[47]⟩+1:=by
 rw[←Rj];exact Lib.splitB_all _ (by decide) 0 _ s rfl
def CA(l:List UInt8):Int:=if l=[]∨79<l.length∨l.head?≠some 47 then 4 else if l=[47]then 0 else FM (EL (l.drop 1))
def A4(l:List UInt8):List BA:=if CA l=0∧l≠[47]then EL (l.drop 1)else []
theorem PN:∀l:List UInt8,(EX l).length≤l.length+1
 |[]=>by simp[EX]
 |c::l=>by
  have F:=PN l;unfold EX;split
  ·simp;omega
  ·split
   ·rename_i x xs e;rw[e]at F;simp at F⊢;omega
   ·simp
theorem WY(w:World)(l:List BA):MA (w.alloc (.cells (l.map Value.string).toArray 9)) (some (aD w.heap.size 0)) l:=by
 refine .inr ⟨_,_,rfl,fun i x F=>?_⟩;rw[nl _ _ _ _ (by rfl)];simp[F]
theorem Rq{p:BA}(h:0<p.size):p.data.toList.head? =some p[0]:=by
 rw[List.head?_eq_getElem?];exact Sh p 0 h
theorem Qa(p:BA):p.toList.isEmpty=decide (p.size=0):=by rw[r1,←Hz];cases p.data.toList<;>simp
theorem MY(p:BA)(w:World)(m:Int)(a8:w.cell? (aD 0 0)=some (iN m)):
 Calls prog 116 #[.string p] w fun e w'=>(∃J H,e=.returned (.tuple #[.slice J (A4 p.data.toList).length H,Am (CA p.data.toList)])∧(A4 p.data.toList).length≤H∧H≤9223372036854775807∧MA w' J (A4 p.data.toList))∧Below w.heap.size w w':=by
 have T:CA p.data.toList=4→∀w':World,Below w.heap.size w w'→(∃J H,Ending.returned (.tuple #[nL,.iface 78 (iN 4)])=.returned (.tuple #[.slice J (A4 p.data.toList).length H,Am (CA p.data.toList)])∧(A4 p.data.toList).length≤H∧H≤9223372036854775807∧MA w' J (A4 p.data.toList))∧Below w.heap.size w w':=by
  intro ak w' hb;have ba:A4 p.data.toList=[]:=by unfold A4;rw[nC (by rw[ak];simp)]
  rw[ba,ak];exact⟨⟨none,0,by simp[Am],by simp,by simp,.inl rfl⟩,hb⟩
 by_cases V:p.size=0
 ·have bb:p.toList.isEmpty=true:=by rw[Qa];simpa using V
  have F:Hid (CA p.data.toList=4):=by show _=_;unfold CA;rw[nD (.inl (nX (by rw[Hz];exact V)))]
  go_enter func116,ntmps116;go_wp2;go_ret2;exact T F.out _ (nv _ _)
 have bb:p.toList.isEmpty=false:=by rw[Qa];simpa using V
 by_cases ao:79<p.size
 ·have bd:decide (79<(p.size:Int))=true:=nF (by omega)
  have F:Hid (CA p.data.toList=4):=by show _=_;unfold CA;rw[nD (.inr (.inl (by rw[Hz];exact ao)))]
  go_enter func116,ntmps116;go_wp2;go_ret2;exact T F.out _ (nv _ _)
 have bd:=nB (by omega);have ap:0<p.size:=by omega
 obtain⟨t,ar⟩:∃t,((p[0].toNat:Int)!=47)=t:=⟨_,rfl⟩;cases t;rotate_left
 ·have F:Hid (CA p.data.toList=4):=by
   show _=_;unfold CA
   refine nD (.inr (.inr ?_));rw[Rq ap];intro e;have be:p[0]=47:=by simpa using e
   have bf:(p[0].toNat:Int)=47:=by rw[be];rfl
   have bg:=bne_iff_ne.1 ar;exact bg bf
  go_enter func116,ntmps116;go_wp2;go_ret2;exact T F.out _ (nv _ _)
 have O:p.data.toList.head? =some 47:=by
  rw[Rq ap];have:(p[0].toNat:Int)=47:=by simpa using ar
  have ay:p[0].toNat=(47:UInt8).toNat:=by have:p[0].toNat=47:=by omega
                                          rw[this];rfl
  rw[UInt8.toNat_inj.1 ay]
 have Y:¬(p.data.toList=[]∨79<p.data.toList.length∨p.data.toList.head?≠some 47):=by
  rw[Hz];rintro(e|e|e)
  ·rw[e]at O;cases O
  ·exact ao e
  ·exact e O
 obtain⟨t,az⟩:∃t,(p.toList==[47])=t:=⟨_,rfl⟩;cases t;rotate_left
 ·have Z:p.data.toList=[47]:=by rw[←r1];simpa using az
  have F:Hid (CA p.data.toList=0):=by show _=_;unfold CA;rw[nC Y,nD Z]
  have I:Hid (A4 p.data.toList=[]):=by show _=_;unfold A4;rw[nC (by rw[Z];simp)]
  clear Z;go_enter func116,ntmps116;go_wp2;go_ret2;rw[I.out,F.out];exact⟨⟨none,0,by simp[Am],by simp,by simp,.inl rfl⟩,nv _ _⟩
 have a1:¬p.data.toList=[47]:=by rw[←r1];simpa using az
 have F:Hid (CA p.data.toList=FM (EL (p.data.toList.drop 1))):=by show _=_;unfold CA;rw[nC Y,nC a1]
 have a6:=hid (Lib.extract_to_end p 1);have a7:(p.extract 1 p.size).size<4294967281:=by rw[ByteArray.size_extract];omega
 clear O Y;go_enter func116,ntmps116;go_wp2_with fail
 refine(Tryz.strings_Split _ ⟨#[47]⟩ m _ a7 a8 (by decide)).mono ?_;rintro e bn ⟨rfl,rfl⟩;rw[Rj,←WR,a6.out];have Q:=WY w (EL (p.data.toList.drop 1));have aa:Below w.heap.size w (w.alloc (.cells ((EL (p.data.toList.drop 1)).map Value.string).toArray 9)):=bN;have bi:(EL (p.data.toList.drop 1)).length≤80:=by
  have:=PN (p.data.toList.drop 1);have ay:=Hz p;simp[EL]at this⊢;omega
 have I:Hid (FM (EL (p.data.toList.drop 1))=0→A4 p.data.toList=EL (p.data.toList.drop 1)):=fun h=>by unfold A4;rw[nD ⟨by rw[F.out];exact h,a1⟩]
 have R:Hid (FM (EL (p.data.toList.drop 1))≠0→A4 p.data.toList=[]):=fun h=>by unfold A4;rw[nC (by rintro⟨e,_⟩;rw[F.out]at e;exact h e)]
 generalize w.alloc (.cells ((EL (p.data.toList.drop 1)).map Value.string).toArray 9)=W at Q aa⊢;generalize EL (p.data.toList.drop 1)=ab at F Q bi I R⊢;clear a6 a7;go_wp2_with fail
 refine(WL _ _ ab _ (by omega) Q).mono ?_;rintro e w' ⟨rfl,rfl⟩;by_cases G:FM ab=0
 ·have ad:Hid (A4 p.data.toList=ab):=I.out G
  have bk:=hid (F.out.trans G);rw[Co G];clear I R F G;go_wp2;go_ret2;rw[ad.out,bk.out];exact⟨⟨_,_,by simp[Am],nn _,by omega,Q⟩,aa⟩
 ·have ad:Hid (A4 p.data.toList=[]):=R.out G
  have bl:=hid G;rw[AG rfl G];clear I R G;go_wp2;go_ret2;rw[ad.out,F.out,AG rfl bl.out];exact⟨⟨none,0,by simp,by simp,by simp,.inl rfl⟩,aa⟩
structure It (B:Bx):Prop where
 len:B.xs.length≤1000
 sm:DL (BJ B.xs)
 lim:E0 (BJ B.xs)
 ne:AI B.xs []≠[]
 ids:∀nf q r,AI B.xs nf=q::r→Ez q.1
 mode:∀nf q r,AI B.xs nf=q::r→0≤(B.th true q.1).m∧(B.th true q.1).m≤4095
structure JQ (B:Bx) (w:World) (nf:List BA) (L:List Fl):Prop where
 nh:∀(j:Nat) f,L[j]? =some f→∃q r,AI B.xs (nf.take j)=q::r∧f.x=q.1.with []∧f.ly=q.2
 len:L.length=nf.length+1∨L.length≤nf.length∧AI B.xs (nf.take L.length)=[]
 nd:∀f∈L,Ah w.cell? f.x f.h
def Wh(B:Bx)(w:World)(an:Option Addr)(nj:Nat)(nf:List BA)(e:Ending):Prop:=∃L F,L[0]? =some F∧JQ B w nf L∧e=.returned (JR (B.wk (B.fd F.x F.h F.ly) nf.length (L.drop 1)) an nj nf)
theorem Tk{w:World}{b:Nat}{B:Bx}(h:AX w b B)(F:It B){an:Option Addr}{nj:Nat}{nf:List BA}(G:AW w.cell? an nf)(H:nf.length≤1000):
 Calls prog 117 #[.pointer (some ⟨b,0,none⟩),.slice an nf.length nj] w fun e w'=>Wh B w' an nj nf e∧Bw w w':=by
 refine(Yp h G F.len H F.sm F.lim F.ne (fun j=>F.ids _) (fun j=>F.mode _)).mono ?_;rintro e w' ⟨⟨L,⟨I,J,O⟩,Q,R,T⟩,hb⟩;exact⟨⟨L,I,J,⟨Q,R,T⟩,O⟩,hb⟩
theorem JQ.below{B:Bx}{w w':World}{nf:List BA}{L:List Fl}(h:JQ B w nf L)(hb:AR w.cell? w'.cell?):JQ B w' nf L:=⟨h.nh,h.len,fun f F=>(h.nd f F).on hb⟩
theorem ZK(F:Except Int Fd)(an:Option Addr)(nj:Nat)(nf:List BA):∃cs E,JR F an nj nf=.tuple #[BT cs,Am E]∧cs.length=21∧∀v∈cs,v.oneCell'=true:=by
 cases F with
 |ok f=>exact⟨_,0,rfl,D4 _,Ej _⟩
 |error E=>exact⟨_,E,rfl,D4 _,Ej _⟩
theorem Me{o:Nat}{s:BA}(h:([.bool false,.int .i64 0,.int .i64 0,.int .i64 0,.bool false,.bool false,.int .i64 0,.int .i64 0,.int .i64 0,.bool false,.slice none 0 0,.bool false,.int .i64 0,.int .i64 0,.int .i64 0,.int .i64 0,.bool false,.slice none 0 0,.string ⟨#[]⟩,.slice none 0 0,.int .i64 0]:List Value)[o]? =some (.string s)):s=⟨#[]⟩:=
 match o,h with
 |0,h=>by simp at h
 |1,h=>by simp at h
 |2,h=>by simp at h
 |3,h=>by simp at h
 |4,h=>by simp at h
 |5,h=>by simp at h
 |6,h=>by simp at h
 |7,h=>by simp at h
 |8,h=>by simp at h
 |9,h=>by simp at h
 |10,h=>by simp at h
 |11,h=>by simp at h
 |12,h=>by simp at h
 |13,h=>by simp at h
 |14,h=>by simp at h
 |15,h=>by simp at h
 |16,h=>by simp at h
 |17,h=>by simp at h
 |18,h=>by
  have e:(⟨#[]⟩:BA)=s:=by simpa using h
  exact e.symm
 |19,h=>by simp at h
 |20,h=>by simp at h
 |n+21,h=>by simp at h
def FG(B:Bx)(w:World)(p:BA)(e:Ending):Prop:=(CA p.data.toList≠0∧e=.returned (.tuple #[Ds.v,Am (CA p.data.toList)]))∨(CA p.data.toList=0∧∃an nj,AW w.cell? an (A4 p.data.toList)∧(A4 p.data.toList).length≤nj∧nj≤9223372036854775807∧Wh B w an nj (A4 p.data.toList) e)
theorem Np{w:World}{b:Nat}{B:Bx}(h:AX w b B)(b2:It B)(p:BA)(bi:(A4 p.data.toList).length≤1000)(bk:∀s∈A4 p.data.toList,s≠⟨#[]⟩)(bl:Int)(bn:w.cell? ⟨0,0,none⟩=some (.int .i64 bl)):
 Calls prog 73 #[.pointer (some ⟨b,0,none⟩),.string p] w fun e w'=>FG B w' p e∧Bw w w':=by
 have ad:=A7.new w _ rfl CJ 101;have R:Bw w (w.alloc AU):=(nv _ _).alloc (nn _) _;have bo:∀q,(w.alloc AU).frozen? ⟨w.heap.size,q,none⟩=false:=fun q=>nQ _ _ _ _ rfl;have bp:∀o,(w.alloc AU).cell? ⟨w.heap.size,o,none⟩=CJ[o]?:=fun o=>by rw[nl _ _ _ _ rfl];simp
 have bs:=h.below R;have ak:Hid _:=MY p (w.alloc AU) bl (Af R bn);obtain⟨H,T⟩:∃H,Hid (CA p.data.toList=H):=⟨_,rfl⟩;obtain⟨N,G⟩:∃N,Hid (A4 p.data.toList=N):=⟨_,rfl⟩;rw[T.out,G.out]at ak;rw[G.out]at bi bk;have ao:Hid _:=R;have bu:Hid _:=bs;clear h R bs bn;go_enter func73,ntmps73;go_upto_region 1 with fail
 generalize(w.alloc AU)=b3 at*;go_wp2_with fail
 refine np ak.out ?_;rintro e V ⟨⟨Y,ap,rfl,b4,b5,bv⟩,c2⟩;have ar:w.heap.size<b3.heap.size:=nz _ _ (ad 0 _ rfl);have ay:Hid _:=ao.out.trans (c2.mono ao.out.size);have az:=ad.below c2;have bx:∀q,V.frozen? ⟨w.heap.size,q,none⟩=false:=fun q=>(c2.frozen (p:=⟨w.heap.size,q,none⟩) ar).trans (bo q);have bA:∀o,V.cell? ⟨w.heap.size,o,none⟩=CJ[o]?:=fun o=>(c2.cell (p:=⟨w.heap.size,o,none⟩) ar).trans (bp o)
 have bB:w.heap.size<V.heap.size:=nH ar c2.size;have b6:=bu.out.below c2;clear ak ao bu ad bo bp;by_cases hF:H=0
 ·subst hF
  have b7:Hid _:=Tk b6 b2 (an:=Y) (nj:=ap) (nf:=N) bv bi;rw[show Am 0=Value.nilIface from rfl];go_wp2_with fail
  refine np b7.out ?_;rintro e F ⟨⟨L,Z,b9,aa,rfl⟩,I⟩;obtain⟨cs,E,a1,a6,J⟩:=ZK (B.wk (B.fd Z.x Z.h Z.ly) N.length (L.drop 1)) Y ap N;have a7:=az.below I;have bC:∀q,F.frozen? ⟨w.heap.size,q,none⟩=false:=fun q=>(I.frozen (p:=⟨w.heap.size,q,none⟩) bB).trans (bx q);have bF:∀o,F.cell? ⟨w.heap.size,o,none⟩=CJ[o]?:=fun o=>(I.cell (p:=⟨w.heap.size,o,none⟩) bB).trans (bA o)
  have a8:=Cd (P:=prog) a7 bC (by rw[a6];rfl) J;have O:Hid _:=Dh cs a7 (by rw[a6];rfl);have Q:Hid _:=CX (b:=w.heap.size) (p:=0) cs (nn _) (ay.out.trans (I.mono ay.out.size));have bG:Hid (AR (Ag F.cell? (fun k=>k==w.heap.size)) (F.setCells w.heap.size 0 cs).cell?):=Jy (nv _ _)
  have bH:Hid (JQ B (F.setCells w.heap.size 0 cs) N L):=⟨aa.nh,aa.len,fun f cb=>(GK (fun cd cf=>by
   have e:cd=w.heap.size:=by simpa using cf
   subst e;exact LG bF) (aa.nd f cb)).on bG.out⟩
  have bY:Hid (AW (F.setCells w.heap.size 0 cs).cell? Y N):=by
   rcases bv with e|⟨b0,cg,ch,b1⟩
   ·exact .inl e
   ·refine .inr ⟨b0,cg,ch,fun i s ba=>?_⟩
    have cl:=Af I (b1 i s ba);refine(BP ?_).trans cl;intro e;have e:b0=w.heap.size:=e;subst e;exact bk s (nE ba) (Me ((bA _).symm.trans (b1 i s ba)))
  generalize F.setCells w.heap.size 0 cs=bb at a8 O Q bH bY;have bd:=run_loadVar_mid (P:=prog) bb w.heap.size 0 101 cs _ O.out rfl rfl (by rw[a6];rfl);have be:=BV cs;unfold Value.cells at be;clear bG aa J a7 bC bF;have co:Hid _:=a1;rw[a1];clear a1;go_wp2;refine nG (v:=.tuple #[.agg cs.toArray,Am E]) ?_ rfl ⟨.inr ⟨T.out,Y,ap,?_,?_,b5,L,Z,b9,?_,?_⟩,Q.out⟩
  ·simp[results,results73,asAddr,bd]
  ·rw[G.out];exact bY.out
  ·rw[G.out];exact b4
  ·rw[G.out];exact bH.out
  ·rw[G.out,co.out];rfl
 ·have bf:=AG (n:=H) rfl hF
  rw[bf];obtain⟨c0,ab⟩:∃cs:List Value,FX CJ cs:=⟨_,rfl⟩;have bg:c0.length=21:=by rw[←(show _=_ from ab)];rfl
  have cp:=hid bg;have J:∀v∈c0,v.oneCell'=true:=by
   rw[←(show _=_ from ab)];simp[Value.oneCell']
  have a8:=Cd (P:=prog) az bx bg.symm J;have O:Hid _:=Dh c0 az bg.symm;have Q:Hid _:=CX (b:=w.heap.size) (p:=0) c0 (nn _) ay.out;generalize V.setCells w.heap.size 0 c0=bb at a8 O Q;have bd:=run_loadVar_mid (P:=prog) bb w.heap.size 0 101 c0 _ O.out rfl rfl (by rw[cp.out];rfl);have cx:Value.agg #[.bool false,.int .i64 0,.int .i64 0,.int .i64 0,.bool false,.bool false,.int .i64 0,.int .i64 0,.int .i64 0,.bool false,.slice none 0 0,.bool false,.int .i64 0,.int .i64 0,.int .i64 0,.int .i64 0,.bool false,.slice none 0 0,.string ⟨#[]⟩,.slice none 0 0,.int .i64 0]=BT c0:=by rw[←(show _=_ from ab)];rfl
  have be:=BV c0;unfold Value.cells at be;have cr:Hid (Ds.v=.agg c0.toArray):=nW (fun l:List Value=>Value.agg l.toArray) (show CJ=c0 from ab);have cu:Hid _:=bf;clear J bf;go_wp2;refine nG (v:=.tuple #[.agg c0.toArray,.iface 78 (.int .i64 H)]) ?_ rfl ⟨.inl ⟨by rw[T.out];exact hF,?_⟩,Q.out⟩
  ·simp[results,results73,asAddr,bd]
  ·rw[T.out,cu.out,cr.out]
theorem FG.form{B:Bx}{w:World}{p:BA}{e:Ending}(h:FG B w p e):∃cs E G,e=.returned (.tuple #[BT cs,Am E])∧cs.length=21∧(∀v∈cs,v.oneCell'=true)∧cs[11]? =some (.bool G):=by
 rcases h with⟨_,rfl⟩|⟨_,an,nj,_,_,_,L,F,_,_,rfl⟩
 ·exact⟨Ds.l,_,false,rfl,D4 _,Ej _,rfl⟩
 ·cases B.wk (B.fd F.x F.h F.ly) (A4 p.data.toList).length (L.drop 1)with
  |ok f=>exact⟨Fd.l {f with na:=an,nc:=nj,nf:=A4 p.data.toList},0,f.there,rfl,D4 _,Ej _,rfl⟩
  |error E=>exact⟨Ds.l,E,false,rfl,D4 _,Ej _,rfl⟩
theorem FG.below{B:Bx}{w w':World}{p:BA}{e:Ending}(h:FG B w p e)(hb:Bw w w'):FG B w' p e:=by
 rcases h with h|⟨F,an,nj,G,H,I,L,J,O,Q,R⟩
 ·exact .inl h
 ·exact .inr ⟨F,an,nj,G.on (Aj hb),H,I,L,J,O,Q.below (Aj hb),R⟩
theorem FG.set{B:Bx}{w:World}{p:BA}{e:Ending}(h:FG B w p e)(O:∀s∈A4 p.data.toList,s≠⟨#[]⟩){n:Nat}(H:∀o,w.cell? ⟨n,o,none⟩=([.bool false,.int .i64 0,.int .i64 0,.int .i64 0,.bool false,.bool false,.int .i64 0,.int .i64 0,.int .i64 0,.bool false,.slice none 0 0,.bool false,.int .i64 0,.int .i64 0,.int .i64 0,.int .i64 0,.bool false,.slice none 0 0,.string ⟨#[]⟩,.slice none 0 0,.int .i64 0]:List Value)[o]?)(cs:List Value):FG B (w.setCells n 0 cs) p e:=by
 rcases h with h|⟨Q,an,nj,R,T,V,L,Y,Z,F,aa⟩
 ·exact .inl h
 ·refine .inr ⟨Q,an,nj,?_,T,V,L,Y,Z,⟨F.nh,F.len,fun f ab=>(GK (fun ad ak=>by
   have e:ad=n:=by simpa using ak
   subst e;exact LG H) (F.nd f ab)).on (Jy (nv _ _))⟩,aa⟩
  rcases R with e|⟨I,ao,ap,J⟩
  ·exact .inl e
  ·refine .inr ⟨I,ao,ap,fun i s G=>(BP ?_).trans (J i s G)⟩
   intro e;have e:I=n:=e;subst e;exact O s (nE G) (Me ((H _).symm.trans (J i s G)))
def Wm(B:Bx)(w:World)(p:BA)(e:Ending):Prop:=∃cs E F,FG B w p (.returned (.tuple #[BT cs,Am E]))∧cs.length=21∧cs[11]? =some (.bool F)∧e=.returned (if E=0∧F=false then .tuple #[Ds.v,Am 5]else .tuple #[BT cs,Am E])
theorem Sj(cs:List Value)(G:cs.length=21)(H:∀v∈cs,v.oneCell'=true)(E:Int)(I:Bool):∃F D,(if E=0∧I=false then(.tuple #[Ds.v,Am 5]:Value)else .tuple #[BT cs,Am E])=.tuple #[BT F,Am D]∧F.length=21∧∀v∈F,v.oneCell'=true:=by
 split
 ·exact⟨Ds.l,5,rfl,D4 _,Ej _⟩
 ·exact⟨cs,E,rfl,G,H⟩
theorem JH{w:World}{b:Nat}{B:Bx}(h:AX w b B)(be:It B)(p:BA)(bf:(A4 p.data.toList).length≤1000)(aa:∀s∈A4 p.data.toList,s≠⟨#[]⟩)(ab:Int)(ad:w.cell? ⟨0,0,none⟩=some (.int .i64 ab)):
 Calls prog 44 #[.pointer (some ⟨b,0,none⟩),.string p] w fun e w'=>Wm B w' p e∧Bw w w':=by
 have ak:=A7.new w _ rfl CJ 101;have H:Bw w (w.alloc AU):=(nv _ _).alloc (nn _) _;have bg:∀q,(w.alloc AU).frozen? ⟨w.heap.size,q,none⟩=false:=fun q=>nQ _ _ _ _ rfl;have bi:∀o,(w.alloc AU).cell? ⟨w.heap.size,o,none⟩=CJ[o]?:=fun o=>by rw[nl _ _ _ _ rfl];simp
 have ao:Hid _:=Np (h.below H) be p bf aa ab (Af H ad);have ap:Hid _:=H;clear h H ad;go_enter func44,ntmps44;go_upto_region 1 with fail
 generalize(w.alloc AU)=bk at*;go_wp2_with fail
 refine np ao.out ?_;rintro e ar ⟨J,c2⟩;obtain⟨cs,E,O,rfl,I,Q,ay⟩:=J.form;have R:w.heap.size<bk.heap.size:=nz _ _ (ak 0 _ rfl);have az:w.heap.size<ar.heap.size:=nH R c2.size;have bl:Hid _:=PU ar cs I Q O ay E;clear ao;go_wp2_with fail
 refine np bl.out ?_;rintro e T ⟨rfl,G⟩;obtain⟨F,D,V,Y,a1⟩:=Sj cs I Q E O;have Z:=(ak.below c2).below G;have a6:∀q,T.frozen? ⟨w.heap.size,q,none⟩=false:=fun q=>(G.frozen (p:=⟨w.heap.size,q,none⟩) az).trans ((c2.frozen (p:=⟨w.heap.size,q,none⟩) R).trans (bg q));have a7:∀o,T.cell? ⟨w.heap.size,o,none⟩=CJ[o]?:=fun o=>(G.cell (p:=⟨w.heap.size,o,none⟩) az).trans ((c2.cell (p:=⟨w.heap.size,o,none⟩) R).trans (bi o))
 have a8:=ap.out.trans ((c2.trans (G.mono c2.size)).mono ap.out.size);have bn:=Cd (P:=prog) Z a6 (by rw[Y];rfl) a1;have ba:Hid _:=Dh F Z (by rw[Y];rfl);have bb:Hid _:=CX (b:=w.heap.size) (p:=0) F (nn _) a8;have bd:Hid _:=(J.below G).set aa a7 F;generalize T.setCells w.heap.size 0 F=bo at bn ba bb bd;have bp:=run_loadVar_mid (P:=prog) bo w.heap.size 0 101 F _ ba.out rfl rfl (by rw[Y];rfl);have bs:=BV F;unfold Value.cells at bs;have bu:Hid _:=V;have bv:Hid _:=I;rw[V];clear V J a1 Q Z a6 a7 a8 I;go_wp2;refine nG (v:=.tuple #[.agg F.toArray,Am D]) ?_ rfl ⟨⟨cs,E,O,bd.out,bv.out,ay,?_⟩,bb.out⟩
 ·simp[results,results44,asAddr,bp]
 ·rw[bu.out];rfl
theorem Ga{w:World}{b:Nat}{la:Option Addr}{lc:Nat}{x:Nd}{ni:List Nd}(O:w.cell? ⟨b,2,none⟩=some (.slice la (x::ni).length lc))(Q:Cn w.cell? la (x::ni)):
 Calls prog 23 #[.pointer (some ⟨b,0,none⟩)] w fun e w'=>(∃h,e=.returned (Al x h)∧Ah w.cell? x h∧Ah w'.cell? x h)∧Bw w w':=by
 obtain⟨H,ar,rfl,f,R⟩:∃H T,la=some ⟨H,T,none⟩∧∃f:Nat→Hd,∀i y,(x::ni)[i]? =some y→Bi w.cell? H (T+i*8) y (f i)∧Ah w.cell? y (f i):=by
  rcases Q with e|e
  ·cases e
  ·exact e
 obtain⟨G,I⟩:=R 0 x rfl;generalize f 0=hd at G I;clear R;rw[r3,rT]at G;obtain⟨k,m,u,g,o,nh,d,ks⟩:=x;have J:=Av.zero w;have hb:Bw w (w.alloc AJ):=(nv _ _).alloc (nn _) _;have Z:=G.on (Aj hb);obtain⟨ay,az,a1,a6,a7,a8,ba,bb⟩:=Z;have c2:=Af hb O;have aa:(0:Int)<(((.mk k m u g o nh d ks:Nd)::ni).length:Int):=by rw[n3];omega
 generalize((.mk k m u g o nh d ks:Nd)::ni).length=bd at c2 aa;go_enter func23,ntmps23;go_upto_region 1 with fail
 have ab:Hid _:=hb;have V:Hid _:=I;obtain⟨z0,ad,ak,z3,z4,z5,ao,ap⟩:=J.1;have fz:=J.2;have be:=fz 0;have bf:=fz 1;have bg:=fz 2;have bi:=fz 3;have bk:=fz 4;have bl:=fz 5;have bn:=fz 6;have bo:=fz 7;clear hb I J fz G O Q;generalize w.alloc AJ=bp at*;have F:w.heap.size≤w.heap.size:=nn _;have Y:Hid _:=(((((((ab.out.setCell (p:=⟨w.heap.size,0,none⟩) F (.int .i64 k)).setCell (p:=⟨w.heap.size,1,none⟩) F (.int .i64 m)).setCell (p:=⟨w.heap.size,2,none⟩) F (.int .i64 u)).setCell (p:=⟨w.heap.size,3,none⟩) F (.int .i64 g)).setCell (p:=⟨w.heap.size,4,none⟩) F (.bool o)).setCell (p:=⟨w.heap.size,5,none⟩) F (.slice hd.aa nh.length hd.ca)).setCell (p:=⟨w.heap.size,6,none⟩) F (.string d)).setCell (p:=⟨w.heap.size,7,none⟩) F (.slice hd.ak ks.length hd.ck);go_wp2;refine nG (v:=Al (.mk k m u g o nh d ks) hd) ?_ rfl ⟨⟨hd,rfl,V.out,V.out.on (Aj Y.out)⟩,Y.out⟩;simp[results,results23,go_sem,z0,ad,ak,z3,z4,z5,ao,ap,Al]
structure Bd (w0 w:World) (sb nb lc:Nat) (M:CO) (x0:Nd) (ni:List Nd):Prop where
 base:Bw w0 w
 gn:w0.heap.size≤nb
 gs:w0.heap.size≤sb
 ne:sb≠nb
 c0:w.cell? ⟨sb,0,none⟩=some (.slice M.ua M.us.length M.uc)
 c1:w.cell? ⟨sb,1,none⟩=some (.slice M.ga M.gs.length M.gc)
 c2:w.cell? ⟨sb,2,none⟩=some (.slice (some ⟨nb,0,none⟩) (ni.length+1) lc)
 lay:Cn w.cell? (some ⟨nb,0,none⟩) (x0::ni)
 cap:ni.length+1≤lc∧lc≤9223372036854775807
 nr:DM w.cell? nb
 fz:∀o,w.frozen? ⟨nb,o,none⟩=false
 maps:Ek w0 M
theorem Bd.ltn{G w:World}{H F lc:Nat}{M:CO}{x0:Nd}{ni:List Nd}(h:Bd G w H F lc M x0 ni):F<w.heap.size:=by
 rcases h.lay with e|⟨b,O,e,f,I⟩
 ·cases e
 ·obtain⟨J,_⟩:=I 0 x0 rfl
  obtain⟨k,m,u,g,o,nh,d,ks⟩:=x0;injection e with e
  injection e with e1 e2
  subst e1;exact nz _ _ J.1
theorem Bd.lts{G w:World}{F H lc:Nat}{M:CO}{x0:Nd}{ni:List Nd}(h:Bd G w F H lc M x0 ni):F<w.heap.size:=nz _ _ h.c0
theorem G0{w w':World}{b:Nat}(h:DM w.cell? b)(e:∀o,w'.cell? ⟨b,o,none⟩=w.cell? ⟨b,o,none⟩):DM w'.cell? b:=fun o s v F G=>h o s v ((e o).symm.trans F) ((e (o+1)).symm.trans G)
theorem Bd.below{G w w':World}{H F lc:Nat}{M:CO}{x0:Nd}{ni:List Nd}(h:Bd G w H F lc M x0 ni)(hb:Bw w w'):Bd G w' H F lc M x0 ni where
 base:=h.base.trans (hb.mono h.base.size)
 gn:=h.gn
 gs:=h.gs
 ne:=h.ne
 c0:=Af hb h.c0
 c1:=Af hb h.c1
 c2:=Af hb h.c2
 lay:=h.lay.on (Aj hb)
 cap:=h.cap
 nr:=G0 h.nr (fun o=>hb.cell (p:=⟨F,o,none⟩) h.ltn)
 fz:=fun o=>(hb.frozen (p:=⟨F,o,none⟩) h.ltn).trans (h.fz o)
 maps:=h.maps
theorem Bd.mapsW{F w:World}{G H lc:Nat}{M:CO}{x0:Nd}{ni:List Nd}(h:Bd F w G H lc M x0 ni):Ek w M:=h.maps.below h.base
theorem Bd.off{G w:World}{H F lc:Nat}{M:CO}{x0:Nd}{ni:List Nd}(h:Bd G w H F lc M x0 ni){x:Nd}{hd:Hd}(I:Ah w.cell? x hd):Ah (Ag w.cell? (fun k=>k==F)) x hd:=GK (fun b hb=>by
 have e:b=F:=by simpa using hb
 subst e;exact h.nr) I
theorem Og{w:World}{b p:Nat}{x:Nd}{hd:Hd}:AR (Ag w.cell? (fun k=>k==b)) (CU w b p x hd).cell?:=fun q v F=>by
 unfold Ag at F;split at F
 ·cases F
 ·rename_i G
  have G:q.block≠b:=by simpa using G
  rw[G5 (fun j _ e=>G (by rw[e]))];exact F
theorem Bd.store{T w:World}{J G lc:Nat}{M:CO}{x0:Nd}{ni:List Nd}(h:Bd T w J G lc M x0 ni){x:Nd}{hd:Hd}(aa:Ah w.cell? x hd):Bd T (CU w G 0 x hd) J G lc M x ni:=by
 have ab:Ao G w (CU w G 0 x hd):=LX;have R:∀q:Addr,q.block≠G→(CU w G 0 x hd).cell? q=w.cell? q:=fun q ad=>G5 (fun j _ e=>ad (by rw[e]));obtain⟨f,O⟩:∃f:Nat→Hd,∀i y,(x0::ni)[i]? =some y→Bi w.cell? G (0+i*8) y (f i)∧Ah w.cell? y (f i):=by
  rcases h.lay with e|⟨b,a8,e,f,O⟩
  ·cases e
  ·injection e with e
   injection e with e1 e2
   subst e1 e2;exact⟨f,O⟩
 have V:Bi (CU w G 0 x hd).cell? G 0 x hd:=Km (y:=x0) (h':=f 0) (by
  have:=(O 0 x0 rfl).1;rwa [r3]at this)
 refine⟨h.base.trans (ab.below h.gn h.base.size),h.gn,h.gs,h.ne,(R ⟨J,0,none⟩ h.ne).trans h.c0,(R ⟨J,1,none⟩ h.ne).trans h.c1,(R ⟨J,2,none⟩ h.ne).trans h.c2,?_,h.cap,?_,fun o=>(Nl _).trans (h.fz o),h.maps⟩
 ·refine .inr ⟨G,0,rfl,fun i=>match i with|0=>hd|i+1=>f (i+1),fun i y Y=>?_⟩
  cases i with
  |zero=>
   have e:x=y:=by simpa using Y
   subst e;exact⟨V,(h.off aa).on Og⟩
  |succ i=>
   obtain⟨F,I⟩:=O (i+1) y (by simpa using Y);refine⟨?_,(h.off I).on Og⟩;obtain⟨k,m,u,g,o,nh,d,ks⟩:=y;obtain⟨ak,F,I,ao,ap,ar,ay,az⟩:=F;have H:∀o,8≤o→(CU w G 0 x hd).cell? ⟨G,o,none⟩=w.cell? ⟨G,o,none⟩:=fun o Q=>G5 (fun j a1 e=>by injection e with _ e2;omega);exact⟨(H _ (by omega)).trans ak,(H _ (by omega)).trans F,(H _ (by omega)).trans I,(H _ (by omega)).trans ao,(H _ (by omega)).trans ap,(H _ (by omega)).trans ar,(H _ (by omega)).trans ay,(H _ (by omega)).trans az⟩
 ·intro o s v F I Z
  have H:∀o,8≤o→(CU w G 0 x hd).cell? ⟨G,o,none⟩=w.cell? ⟨G,o,none⟩:=fun o Q=>G5 (fun j a1 e=>by injection e with _ e2;omega);obtain⟨k,m,u,g,ba,nh,d,ks⟩:=x
  obtain⟨a6,q1,q2,a7,q4,q5,q6,q7⟩:=V;rcases Nat.lt_or_ge o 8 with Q|Q
  ·rcases(by omega:o=0∨o=1∨o=2∨o=3∨o=4∨o=5∨o=6∨o=7)with q|q|q|q|q|q|q|q<;>subst q
   ·rw[a6]at F;cases F
   ·rw[q1]at F;cases F
   ·rw[q2]at F;cases F
   ·rw[a7]at F;cases F
   ·rw[q4]at F;cases F
   ·rw[q5]at F;cases F
   ·rw[q7]at I
    injection I with I
    subst I;exact Z
   ·rw[q7]at F;cases F
  ·exact h.nr o s v ((H o Q).symm.trans F) ((H (o+1) (by omega)).symm.trans I) Z
theorem Lx{T w:World}{I G lc:Nat}{M:CO}{x0:Nd}{ni:List Nd}(h:Bd T w I G lc M x0 ni){x:Nd}{hd:Hd}(V:Ah w.cell? x hd)(E:Int):
 Calls prog 139 #[.pointer (some ⟨I,0,none⟩),Al x hd,Am E] w fun e w'=>e=.returned (Am E)∧Bd T w' I G lc M (if E=0 then x else x0) ni∧Ao G w w':=by
 obtain⟨k,m,u,g,o,nh,d,ks⟩:=x;have ak:=Ch.new w k m u g o nh d ks hd;have J:Bw w (w.alloc (As k m u g o nh d ks hd)):=(nv _ _).alloc (nn _) _;have H:=h.below J;have Y:=V.on (Aj J);have Z:Hid _:=J;have O:=H.store Y;rw[←Ic]at O;have aa:Hid _:=O;clear O;have c2:=H.c2;have F:=H.fz;obtain⟨f,ao⟩:∃f:Hd,Bi (w.alloc (As k m u g o nh d ks hd)).cell? G 0 x0 f:=by
  rcases H.lay with e|⟨b,a1,e,f,F⟩
  ·cases e
  ·injection e with e
   injection e with e1 e2
   subst e1 e2;have:=(F 0 x0 rfl).1;rw[r3]at this;exact⟨_,this⟩
 have ap:(0:Int)<((ni.length+1:Nat):Int):=by omega
 have ar:Hid _:=H;clear h V J H Y;show Calls prog 139 #[.pointer (some ⟨I,0,none⟩),(A5 k m u g o nh d ks hd),Am E] w _;obtain⟨a6,a7,u0,a8,ba,bb,bd,be⟩:=x0;obtain⟨z0,bf,bg,z3,z4,z5,bi,bk⟩:=ao;obtain⟨bl,bn,bo,bp,bs,bu,bv,bx⟩:=ak;have bA:=F 0;have bB:=F 1;have bC:=F 2;have bF:=F 3;have bG:=F 4;have bH:=F 5;have f6:=F 6;have bY:=F 7;clear F;generalize ni.length+1=b0 at c2 ap;by_cases ab:E=0
 ·subst ab
  rw[show Am 0=Value.nilIface from rfl];go_enter func139,ntmps139;go_upto_region 2 with fail
  generalize(w.alloc (As k m u g o nh d ks hd))=Q at*;have ad:Hid (Ao G Q (Au Q G (.mk k m u g o nh d ks) hd)):=Cz;generalize R:Au Q G (.mk k m u g o nh d ks) hd=b1 at aa ad;simp only[Au]at R;have ay:Hid _:=R;clear R;go_region
  all_goals
   go_wp2;rw[ay.out];go_ret;exact⟨rfl,aa.out.below ((nv _ _).drew),((Ao.of_below Z.out).trans ad.out).then ((nv _ _).drew)⟩
 ·have az:=AG (n:=E) rfl ab
  rw[az];go_enter func139,ntmps139;go_wp2;go_ret;exact⟨rfl,ar.out,Ao.of_below Z.out⟩
end Go.Proofs.YtofhphibahcniaaGreatDoor
