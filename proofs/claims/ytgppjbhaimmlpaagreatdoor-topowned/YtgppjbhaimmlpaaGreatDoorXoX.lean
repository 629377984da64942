/-
  TopOwned: Xo He Pa Tma We Wf Wg Wh Hg Xp Xs.
-/
import Derived.Test.YtgppjbhaimmlpaaGreatDoorApX
import Derived.Test.YtgppjbhaimmlpaaGreatDoorXjX
import Derived.Test.YtgppjbhaimmlpaaGreatDoorWrX
import Derived.Test.YtgppjbhaimmlpaaGreatDoorFiX
import Derived.Test.YtgppjbhaimmlpaaGreatDoorUmX
import Derived.Test.YtgppjbhaimmlpaaGreatDoorMaX
import Derived.Test.YtgppjbhaimmlpaaGreatDoorUcX
import Derived.Test.YtgppjbhaimmlpaaGreatDoorWoX
import Derived.Deep.RegionHeld3
import Derived.Deep.RegionLaw
import Derived.Deep.Cut
import Derived.Test.YtgppjbhaimmlpaaGreatDoorKbX
import Derived.Deep.LoopGhost
import Derived.Test.YtgppjbhaimmlpaaGreatDoorUoX
set_option maxRecDepth 100000
set_option maxHeartbeats 16000000
namespace Go.Proofs.YtgppjbhaimmlpaaGreatDoor
open Go.RowKit Go.Proofs.Tryz
structure Bd (w0 w:World) (sb nb lc:Nat) (M:CE) (x0:Nd) (ni:List Nd):Prop where
 base:Bw w0 w
 gn:w0.heap.size≤nb
 gs:w0.heap.size≤sb
 ne:sb≠nb
 c0:w.cell? ⟨sb,0,none⟩=some (.slice M.ua M.us.length M.uc)
 c1:w.cell? ⟨sb,1,none⟩=some (.slice M.ga M.gs.length M.gc)
 c2:w.cell? ⟨sb,2,none⟩=some (.slice (some ⟨nb,0,none⟩) (ni.length+1) lc)
 lay:Ch w.cell? (some ⟨nb,0,none⟩) (x0::ni)
 cap:ni.length+1≤lc∧lc≤9223372036854775807
 nr:DE w.cell? nb
 fz:∀o,w.frozen? ⟨nb,o,none⟩=false
 maps:DD w0 M
theorem Bd.ltn{G w:World}{H F lc:Nat}{M:CE}{x0:Nd}{ni:List Nd}(h:Bd G w H F lc M x0 ni):F<w.heap.size:=by
 rcases h.lay with e|⟨b,O,e,f,I⟩
 ·cases e
 ·obtain⟨J,_⟩:=I 0 x0 rfl
  obtain⟨k,m,u,g,o,nh,d,ks⟩:=x0;injection e with e
  injection e with e1 e2
  subst e1;exact ny _ _ J.1
theorem Bd.lts{G w:World}{F H lc:Nat}{M:CE}{x0:Nd}{ni:List Nd}(h:Bd G w F H lc M x0 ni):F<w.heap.size:=ny _ _ h.c0
theorem GU{w w':World}{b:Nat}(h:DE w.cell? b)(e:∀o,w'.cell? ⟨b,o,none⟩=w.cell? ⟨b,o,none⟩):DE w'.cell? b:=fun o s v F G=>h o s v ((e o).symm.trans F) ((e (o+1)).symm.trans G)
theorem Bd.below{G w w':World}{H F lc:Nat}{M:CE}{x0:Nd}{ni:List Nd}(h:Bd G w H F lc M x0 ni)(hb:Bw w w'):Bd G w' H F lc M x0 ni where
 base:=h.base.trans (hb.mono h.base.size)
 gn:=h.gn
 gs:=h.gs
 ne:=h.ne
 c0:=Ad hb h.c0
 c1:=Ad hb h.c1
 c2:=Ad hb h.c2
 lay:=h.lay.on (Aj hb)
 cap:=h.cap
 nr:=GU h.nr (fun o=>hb.cell (p:=⟨F,o,none⟩) h.ltn)
 fz:=fun o=>(hb.frozen (p:=⟨F,o,none⟩) h.ltn).trans (h.fz o)
 maps:=h.maps
theorem Bd.mapsW{F w:World}{G H lc:Nat}{M:CE}{x0:Nd}{ni:List Nd}(h:Bd F w G H lc M x0 ni):DD w M:=h.maps.below h.base
theorem Bd.off{G w:World}{H F lc:Nat}{M:CE}{x0:Nd}{ni:List Nd}(h:Bd G w H F lc M x0 ni){x:Nd}{hd:Hd}(I:Ah w.cell? x hd):Ah (Ag w.cell? (fun k=>k==F)) x hd:=GY (fun b hb=>by
 have e:b=F:=by simpa using hb
 subst e;exact h.nr) I
theorem Nz{w:World}{b p:Nat}{x:Nd}{hd:Hd}:AR (Ag w.cell? (fun k=>k==b)) (CZ w b p x hd).cell?:=fun q v F=>by
 unfold Ag at F;split at F
 ·cases F
 ·rename_i G
  have G:q.block≠b:=by simpa using G
  rw[FK (fun j _ e=>G (by rw[e]))];exact F
theorem Bd.store{R w:World}{I G lc:Nat}{M:CE}{x0:Nd}{ni:List Nd}(h:Bd R w I G lc M x0 ni){x:Nd}{hd:Hd}(Z:Ah w.cell? x hd):Bd R (CZ w G 0 x hd) I G lc M x ni:=by
 have aa:Au G w (CZ w G 0 x hd):=NT;have Q:∀q:Addr,q.block≠G→(CZ w G 0 x hd).cell? q=w.cell? q:=fun q ab=>FK (fun j _ e=>ab (by rw[e]));obtain⟨f,J⟩:∃f:Nat→Hd,∀i y,(x0::ni)[i]? =some y→Bj w.cell? G (0+i*8) y (f i)∧Ah w.cell? y (f i):=by
  rcases h.lay with e|⟨b,ba,e,f,J⟩
  ·cases e
  ·injection e with e
   injection e with e1 e2
   subst e1 e2;exact⟨f,J⟩
 have T:Bj (CZ w G 0 x hd).cell? G 0 x hd:=LJ (y:=x0) (h':=f 0) (by
  have:=(J 0 x0 rfl).1;rwa [r3]at this)
 refine⟨h.base.trans (aa.below h.gn h.base.size),h.gn,h.gs,h.ne,(Q ⟨I,0,none⟩ h.ne).trans h.c0,(Q ⟨I,1,none⟩ h.ne).trans h.c1,(Q ⟨I,2,none⟩ h.ne).trans h.c2,?_,h.cap,?_,fun o=>(MQ _).trans (h.fz o),h.maps⟩
 ·refine .inr ⟨G,0,rfl,fun i=>match i with|0=>hd|i+1=>f (i+1),fun i y V=>?_⟩
  cases i with
  |zero=>
   have e:x=y:=by simpa using V
   subst e;exact⟨T,(h.off Z).on Nz⟩
  |succ i=>
   obtain⟨F,H⟩:=J (i+1) y (by simpa using V);refine⟨?_,(h.off H).on Nz⟩;obtain⟨k,m,u,g,o,nh,d,ks⟩:=y;obtain⟨ad,F,H,ak,ao,ap,az,a1⟩:=F;have fr:∀o,8≤o→(CZ w G 0 x hd).cell? ⟨G,o,none⟩=w.cell? ⟨G,o,none⟩:=fun o O=>FK (fun j a6 e=>by injection e with _ e2;omega);exact⟨(fr _ (by omega)).trans ad,(fr _ (by omega)).trans F,(fr _ (by omega)).trans H,(fr _ (by omega)).trans ak,(fr _ (by omega)).trans ao,(fr _ (by omega)).trans ap,(fr _ (by omega)).trans az,(fr _ (by omega)).trans a1⟩
 ·intro o s v F H Y
  have fr:∀o,8≤o→(CZ w G 0 x hd).cell? ⟨G,o,none⟩=w.cell? ⟨G,o,none⟩:=fun o O=>FK (fun j a6 e=>by injection e with _ e2;omega);obtain⟨k,m,u,g,bb,nh,d,ks⟩:=x
  obtain⟨a7,q1,q2,a8,q4,q5,q6,q7⟩:=T;rcases Nat.lt_or_ge o 8 with O|O
  ·rcases(by omega:o=0∨o=1∨o=2∨o=3∨o=4∨o=5∨o=6∨o=7)with q|q|q|q|q|q|q|q<;>subst q
   ·rw[a7]at F;cases F
   ·rw[q1]at F;cases F
   ·rw[q2]at F;cases F
   ·rw[a8]at F;cases F
   ·rw[q4]at F;cases F
   ·rw[q5]at F;cases F
   ·rw[q7]at H
    injection H with H
    subst H;exact Y
   ·rw[q7]at F;cases F
  ·exact h.nr o s v ((fr o O).symm.trans F) ((fr (o+1) (by omega)).symm.trans H) Y
theorem La{T w:World}{I G lc:Nat}{M:CE}{x0:Nd}{ni:List Nd}(h:Bd T w I G lc M x0 ni){x:Nd}{hd:Hd}(V:Ah w.cell? x hd)(E:Int):
 Calls prog 131 #[.pointer (some ⟨I,0,none⟩),Ao x hd,Am E] w fun e w'=>e=.returned (Am E)∧Bd T w' I G lc M (if E=0 then x else x0) ni∧Au G w w':=by
 obtain⟨k,m,u,g,o,nh,d,ks⟩:=x;have ak:=Cc.new w k m u g o nh d ks hd;have J:Bw w (w.alloc (Ap k m u g o nh d ks hd)):=(nt _ _).alloc (nl _) _;have H:=h.below J;have Y:=V.on (Aj J);have Z:Hid _:=J;have O:=H.store Y;rw[←Gh]at O;have aa:Hid _:=O;clear O;have c2:=H.c2;have F:=H.fz;obtain⟨f,ao⟩:∃f:Hd,Bj (w.alloc (Ap k m u g o nh d ks hd)).cell? G 0 x0 f:=by
  rcases H.lay with e|⟨b,a7,e,f,F⟩
  ·cases e
  ·injection e with e
   injection e with e1 e2
   subst e1 e2;have:=(F 0 x0 rfl).1;rw[r3]at this;exact⟨_,this⟩
 have ap:(0:Int)<((ni.length+1:Nat):Int):=by omega
 have az:Hid _:=H;clear h V J H Y;show Calls prog 131 #[.pointer (some ⟨I,0,none⟩),(AY k m u g o nh d ks hd),Am E] w _;obtain⟨a8,ba,u0,bb,bd,be,bf,bg⟩:=x0;obtain⟨z0,bi,bk,z3,z4,z5,bl,bn⟩:=ao;obtain⟨bo,bp,bs,bu,bv,bx,bA,bB⟩:=ak;have bC:=F 0;have bF:=F 1;have bG:=F 2;have bH:=F 3;have bY:=F 4;have b0:=F 5;have f6:=F 6;have b1:=F 7;clear F;generalize ni.length+1=b2 at c2 ap;by_cases ab:E=0
 ·subst ab
  rw[show Am 0=Value.nilIface from rfl];go_enter func131,ntmps131;go_upto_region 2 with fail
  generalize(w.alloc (Ap k m u g o nh d ks hd))=Q at*;have ad:Hid (Au G Q (Ar Q G (.mk k m u g o nh d ks) hd)):=Cf;generalize R:Ar Q G (.mk k m u g o nh d ks) hd=b3 at aa ad;simp only[Ar]at R;have a1:Hid _:=R;clear R;go_region
  all_goals
   go_wp2;rw[a1.out];go_ret;exact⟨rfl,aa.out.below ((nt _ _).drew),((Au.of_below Z.out).trans ad.out).then ((nt _ _).drew)⟩
 ·have a6:=AH (n:=E) rfl ab
  rw[a6];go_enter func131,ntmps131;go_wp2;go_ret;exact⟨rfl,az.out,Au.of_below Z.out⟩
theorem Xj{m:BA}(h:AQ m=true):m.size≤12:=by
 unfold AQ G3 at h;simp only[Bool.and_eq_true,r5]at h;have F:m.data.toList.length=m.size:=by simp
 omega
theorem SJ{m:BA}{z:Nd}(F:m.size≤255)(G:AB z):∀{ks:At},Bt ks→Bt (Cy m z ks)
 |[],_=>by rw[Cy,Bt,Bt];exact⟨F,G,trivial⟩
 |(n,x)::l,ha=>by
  rw[Cy];split
  ·rw[Bt];exact⟨F,G,ha⟩
  ·rw[Bt]at ha⊢;exact⟨ha.1,ha.2.1,SJ F G ha.2.2⟩
theorem Lk{x:Nd}{l:List BA}{n r:Nd}(h:AG (some x) l n=.ok r)(hx:AB x):AB n→AB r:=by
 refine Jo (c:=some x) (fun n r=>AB n→AB r) ?_ ?_ h
 ·intro m n ks _ G F
  rw[←Gx n,GW]at F;rw[GW];refine⟨F.1,?_⟩;rcases JH G with⟨Q,q,H,I⟩|⟨q,_⟩
  ·injection q with q
   subst q;have:=Xj H;rcases I with⟨_,rfl⟩|⟨_,rfl⟩
   ·exact SJ (by omega) hx F.2
   ·exact KW hx F.2
  ·cases q
 ·intro m n y z _ J O F
  rw[←Gx n,GW]at F;rw[GW];exact⟨F.1,KW (O (Lv F.2 J)) F.2⟩
theorem Uv{m:BA}{y:Nd}:∀{ks:At},Bu ks→fk m ks=some y→AM y
 |[],_,h=>by cases h
 |(n,x)::l,ha,h=>by
  rw[Bu]at ha;rw[fk]at h;split at h
  ·cases h;exact ha.1
  ·exact Uv ha.2 h
theorem NY{m:BA}{z:Nd}(F:AM z):∀{ks:At},Bu ks→Bu (BQ m z ks)
 |[],_=>by rw[BQ,Bu];trivial
 |(n,x)::l,ha=>by
  rw[Bu]at ha;rw[BQ];split
  ·rw[Bu];exact⟨F,ha.2⟩
  ·rw[Bu];exact⟨ha.1,NY F ha.2⟩
theorem ST{m:BA}{z:Nd}(F:AM z):∀{ks:At},Bu ks→Bu (Cy m z ks)
 |[],_=>by rw[Cy,Bu,Bu];exact⟨F,trivial⟩
 |(n,x)::l,ha=>by
  rw[Cy];split
  ·rw[Bu];exact⟨F,ha⟩
  ·rw[Bu]at ha⊢;exact⟨ha.1,ST F ha.2⟩
theorem Lq{x:Nd}{ks:At}:AM (x.with ks)↔AM (x.with [])∧Bu ks:=by
 obtain⟨k,m,u,g,o,nh,d,F⟩:=x;show AM (.mk k m u g o nh d ks)↔AM (.mk k m u g o nh d [])∧Bu ks;rw[AM,AM,Bu];exact⟨fun h=>⟨⟨h.1,h.2.1,trivial⟩,h.2.2⟩,fun h=>⟨h.1.1,h.1.2.1,h.2⟩⟩
theorem NX{x:Nd}{l:List BA}{n r:Nd}(h:AG (some x) l n=.ok r)(hx:AM x):AM n→AM r:=by
 refine Jo (c:=some x) (fun n r=>AM n→AM r) ?_ ?_ h
 ·intro m n ks _ G F
  rw[←Gx n,Lq]at F;rw[Lq];refine⟨F.1,?_⟩;rcases JH G with⟨O,q,Q,H⟩|⟨q,_⟩
  ·injection q with q
   subst q;rcases H with⟨_,rfl⟩|⟨_,rfl⟩
   ·exact ST hx F.2
   ·exact NY hx F.2
  ·cases q
 ·intro m n y z _ I J F
  rw[←Gx n,Lq]at F;rw[Lq];exact⟨F.1,NY (J (Uv F.2 I)) F.2⟩
theorem L9{L:List Rg}{x y:Int}(h:Fp L x=some y):AZ y:=by
 unfold Fp at h;by_cases F:CY L=0
 ·rw[nC F]at h
  obtain⟨r,G,H,I,rfl⟩:=JY h;have hb:=J6 F r G;unfold Rg.bd at hb;unfold AZ;omega
 ·rw[nB F]at h;cases h
theorem cD{us gs:List Rg}{x y:Nd}(h:Bh true us gs (CF x)=some y)(F:AB x):AB y∧AM y:=by
 obtain⟨k,m,u,g,o,nh,d,ks⟩:=x;rw[CF,Bh]at h;simp only[if_true]at h;split at h
 ·rename_i u' g' e1 e2
  cases h;rw[AB]at F;rw[AB,Bt,AM,Bu];exact⟨⟨F.1,F.2.1,trivial⟩,L9 e1,L9 e2,trivial⟩
 ·cases h
theorem QJ{xs:List Nd}(h:∀x∈xs,AB x):∀nf:List BA,∀q∈AP xs nf,AB q.1:=by
 intro nf;unfold AP;have F:∀q∈A8 (BD xs),AB q.1:=fun q G=>h _ (Jg (Hx _ _ G));generalize A8 (BD xs)=l at F
 induction nf generalizing l with
 |nil=>exact F
 |cons nm nf H=>
  rw[rK];refine H _ fun q G=>?_;obtain⟨p,I,e⟩:=NK (show q∈Cv l nm from G)
  exact TY (F p I) e
theorem Uu{us gs:List Rg}{xs:List Nd}{nf:List BA}{U:Nd}(I:∀x∈xs,AB x)(J:AB U)(O:AM U):∀{k:Nat} {F:Nd},E5 us gs xs nf U k=.ok F→AB F∧AM F∧cnt F≤cnt U+k
 |0,F,h=>by cases h;exact⟨J,O,nl _⟩
 |k+1,F,h=>by
  rw[E5]at h;cases hk:E5 us gs xs nf U k with
  |error f=>rw[hk]at h;cases h
  |ok Y=>
   rw[hk]at h;obtain⟨G,H,Z⟩:=Uu I J O hk;dsimp only at h;cases hs:AP xs (nf.take (k+1))with
   |nil=>rw[hs]at h;cases h;exact⟨G,H,by omega⟩
   |cons q r=>
    rw[hs]at h;dsimp only at h;by_cases Q:q.2=0
    ·rw[nC Q]at h;cases h;exact⟨G,H,by omega⟩
    ·rw[nB Q]at h
     cases hm:Bh true us gs (CF q.1)with
     |none=>rw[hm]at h;cases h
     |some y=>
      rw[hm]at h;dsimp only at h;have R:AB q.1:=QJ I _ q (by rw[hs];exact nJ ..);obtain⟨T,V⟩:=cD hm R;have c:=Jr h;have e:GF (some y)=1:=(bS hm).trans (Sb _);exact⟨Lk h T G,NX h V H,by omega⟩
theorem cy{us gs:List Rg}{xs:List Nd}{nf:List BA}{U F:Nd}(G:∀x∈xs,AB x)(H:AB U)(I:AM U)(h:DL us gs xs nf U=.ok F):AB F∧AM F∧cnt F≤cnt U+nf.length:=by
 unfold DL at h;split at h
 ·cases h
 ·exact Uu G H I h
theorem Du(w:World)(o:Obj):Below w.heap.size w (w.alloc o):=(nt _ _).alloc (nl _) _
theorem Lj{w w':World}{S:Nat→Bool}(hb:Below w.heap.size w w')(F:∀k,k<w.heap.size→S k=false):AR w.cell? (Ag w'.cell? S):=fun q v h=>by
 have G:=bL h;rw[Co (F _ G)];exact Aj hb _ _ h
def Hu(xs:List Nd):Bool:=decide (xs.length≤5)&&xs.all fun x=>decide (0<Dw x 80)
theorem OT{c:AJ}{a:Option Addr}{xs:List Nd}(h:Ch c a xs){j:Nat}{x:Nd}(G:xs[j]? =some x):∃b F h,a=some (aD b F)∧Bj c b (F+j*8) x h∧Ah c x h:=by
 rcases h with e|⟨b,F,e,f,H⟩
 ·rw[e]at G;simp at G
 ·exact⟨b,F,f j,e,H j x G⟩
theorem WS{w:World}{a:Option Addr}{cap:Nat}{xs:List Nd}(hx:Ch w.cell? a xs)(az:xs.length≤9223372036854775807):
 Calls prog 5 #[.slice a xs.length cap] w fun e w'=>e=.returned (.bool (Hu xs))∧Below w.heap.size w w':=by
 obtain⟨F,H⟩:=A3 (Hu xs);rw[H.out];have a1:=hid hx;by_cases a6:5<xs.length
 ·have Q:Hid (F=false):=by show F=_;rw[←H.out];unfold Hu;rw[nA (by omega)];rfl
  have hb:decide ((5:Int)<(xs.length:Int))=true:=nE (by omega);clear hx;go_enter func5,ntmps5;go_wp2;go_ret;exact⟨Bf Q.out.symm,nt _ _⟩
 have Z:Hid (F=xs.all fun x=>decide (0<Dw x 80)):=by show F=_;rw[←H.out];unfold Hu;rw[nE (by omega)];rfl
 have hb:=nA (by omega);obtain⟨N,R⟩:=A3 xs.length;rw[R.out]at hb a6⊢;clear hx az H;go_enter func5,ntmps5;go_wp2;go_loopw [3] (fun i wr=>∃j:Nat,j≤N∧i=iN j∧Hid (∀x∈xs.take j,0<Dw x 80)∧Below w.heap.size w wr) (fun i _=>N-(intOf i).toNat)
 case atStart=>exact⟨0,nM _,rfl,fun x hx=>(by cases hx),nt _ _⟩
 case round=>
  obtain⟨j,bu,rfl,aa,G⟩:=hrel;by_cases a7:j<N
  ·have a8:decide ((j:Int)<(N:Int))=true:=nE (by omega)
   obtain⟨x,I⟩:∃x,xs[j]? =some x:=⟨_,np (by rw[R.out];exact a7)⟩;obtain⟨bv,bx,h,rfl,ab,hd⟩:=OT a1.out I;have ba:=hid (Hm I);have bb:=hid (nD I);have bd:=ab.below G;obtain⟨J,T⟩:=A3 (Dw x 80);have V:=Xe (hd.on (Aj G));rw[T.out]at V;obtain⟨k,m,u,g,o,nh,d,ks⟩:=x;have ad:Hid (cL 13 #[(AY k m u g o nh d ks h)] wr fun e be=>e=.returned (.bool (decide (0<J)))∧Below wr.heap.size wr be):=V;obtain⟨bf,bg,bi,bk,bl,bn,f6,bo⟩:=bd;clear ab hd I V;go_wp2_with fail
   with_reducible refine nn ad.out ?_
   rintro e bA ⟨rfl,ak⟩;have ao:=G.trans (ak.mono G.size);clear bf bg bi bk bl bn f6 bo ad ak;by_cases Y:0<J
   ·have O:decide (0<J)=true:=nE Y
    have bp:Hid (∀x∈xs.take (j+1),0<Dw x 80):=fun y ap=>by
     rw[ba.out]at ap;rcases rd.1 ap with e|e
     ·exact aa.out y e
     ·rw[rj]at e;rw[e,T.out];exact Y
    rw[O];go_wp2;go_roundw
    case rel=>exact⟨j+1,by omega,by go_num,bp.out,ao⟩
    case measure=>(simp[intOf];try omega)
   ·have O:decide (0<J)=false:=nA Y
    have Q:Hid (F=false):=by
     show F=_;rw[Z.out];refine List.all_eq_false.2 ⟨_,bb.out,?_⟩;rw[T.out,O];simp
    rw[O];go_wp2;go_ret;exact⟨Bf Q.out.symm,ao⟩
  ·have a8:decide ((j:Int)<(N:Int))=false:=nA (by omega)
   have bs:Hid (F=true):=by
    show F=_;rw[Z.out];refine List.all_eq_true.2 fun x hx=>nE (aa.out x ?_);rw[n1 (by rw[R.out];omega)]
    exact hx
   go_wp2;go_ret;exact⟨Bf bs.out.symm,G⟩
structure D7 (w:World) (v:Value) (L:List Fl) (wr:World):Prop where
 low:Below w.heap.size w wr
 row:wr.ownsRow w.heap.size 50 8 v L.length (Be L)
 nd:∀f∈L,Ah (Ag wr.cell? (fun k=>v.ownBlock==some k)) f.x f.h
theorem D7.below{w:World}{v:Value}{L:List Fl}{wr w':World}(h:D7 w v L wr)(hb:Below wr.heap.size wr w'):D7 w v L w':=⟨h.low.trans (hb.mono h.low.size),GR h.row hb,fun f F=>(h.nd f F).on (CQ hb)⟩
theorem D7.app{w:World}{v F:Value}{L:List Fl}{wr w':World}(h:D7 w v L wr){f:Fl}(J:Ah (Ag wr.cell? (fun k=>v.ownBlock==some k)) f.x f.h)(O:w'.ownsRow w.heap.size 50 8 F (L++[f]).length (Be (L++[f])))(H:wr.grownBy w' v.ownBlock)(Q:F.ownBlock=v.ownBlock∨F.ownBlock=some wr.heap.size):D7 w F (L++[f]) w':=by
 have I:AR (Ag wr.cell? (fun k=>v.ownBlock==some k)) (Ag w'.cell? (fun k=>F.ownBlock==some k)):=Cb fun k R G=>by
  simp at G;refine⟨?_,H.block k R (fun e=>G e.symm)⟩;simp;rcases Q with e|e
  ·rw[e];exact G
  ·rw[e];intro T;cases T;omega
 refine⟨h.low.grown H h.low.size (fun g e=>(h.row.lt g e).1),O,fun V Y=>?_⟩;rcases rd.1 Y with e|e
 ·exact(h.nd V e).on I
 ·rw[rj]at e;rw[e];exact J.on I
theorem XI(w:World)(k m u g:Int)(o:Bool)(nh:List Kv)(d:BA)(ks:At)(h:Hd):(w.alloc (.cells #[iN k,iN m,iN u,iN g,.bool o,.slice h.aa nh.length h.ca,.string d,.slice h.ak ks.length h.ck] 50)).ownsRow w.heap.size 50 8 (sL w.heap.size 0 1 1) 1 (Be [(⟨(.mk k m u g o nh d ks),h,0⟩:Fl)]):=
 ⟨rfl,.inr ⟨w.heap.size,1,_,rfl,nl _,heap_alloc_new w _,nl _,by decide,rfl,rfl⟩⟩
theorem bK(w:World)(k m u g:Int)(o:Bool)(nh:List Kv)(d:BA)(ks:At)(h:Hd)(G:Ah w.cell? (.mk k m u g o nh d ks) h):D7 w (sL w.heap.size 0 1 1) [⟨(.mk k m u g o nh d ks),h,0⟩] (w.alloc (.cells #[iN k,iN m,iN u,iN g,.bool o,.slice h.aa nh.length h.ca,.string d,.slice h.ak ks.length h.ck] 50)):=
 ⟨Du w _,XI w k m u g o nh d ks h,fun f F=>by
  rw[rj]at F;rw[F];exact G.on (Lj (Du w _) (fun q H=>by simp[Value.ownBlock];omega))⟩
theorem bZ{w wr:World}{v:Value}{L:List Fl}(h:D7 w v L wr):∃a cap,v=.slice a L.length cap∧Ch wr.cell? a (L.map Fl.x):=by
 rcases h.row.2 with⟨rfl,G⟩|⟨g,cap,Q,rfl,hb,I,R,T,V,J⟩
 ·exact⟨none,0,by rw[G],.inl (by rw[rp.1 G];rfl)⟩
 ·refine⟨some (aD g 0),cap,rfl,.inr ⟨g,0,rfl,fun i=>(L.getD i ⟨zN,zH,0⟩).h,fun i x H=>?_⟩⟩
  rw[n4]at H;obtain⟨f,F,rfl⟩:=nY.1 H;have e:(L.getD i ⟨zN,zH,0⟩)=f:=by rw[List.getD_eq_getElem?_getD,F];rfl
  dsimp only;rw[e];refine⟨Fe.2 fun q u O=>?_,(h.nd f (nD F)).on (Ci _ _)⟩;rw[nT];exact Fq I J (Jn L i f F q u O)
def GQ:Nd→Int
 |.mk k m u g _ nh d _=>if k<1∨3<k then 3 else if m<0∨4095<m∨CM u=false∨CM g=false then 1 else if CX nh≠0 then CX nh else if 200<d.size then 1 else 0
def H7(up F:Bool):Nd→Bool
 |.mk k m u g o nh d ks=>(((k==3&&((((!up||m !=0)||u !=0)||g !=0)||decide (0<nh.length)))||(k !=1&& !d.toList.isEmpty))||(k !=2&&(decide (0<ks.length)||o)))||(o&&(F|| !up))
theorem VL(d:BA):d.toList.isEmpty=decide (d.size=0):=by
 rw[r1,←Ht];cases d.data.toList<;>simp
theorem XQ(up J:Bool)(x:Nd):D6 up J x=if GQ x≠0 then GQ x else if H7 up J x=true then 3 else 0:=by
 obtain⟨k,m,u,g,o,nh,d,ks⟩:=x;rw[D6,GQ];by_cases I:k<1∨3<k
 ·rw[nC I,nC I];rfl
 rw[nB I,nB I];by_cases F:m<0∨4095<m∨CM u=false∨CM g=false
 ·rw[nC F,nC F];rfl
 rw[nB F,nB F];by_cases G:CX nh≠0
 ·rw[nC G,nC G,nC G]
 rw[nB G,nB G];by_cases H:200<d.size
 ·rw[nC H,IW,nC H];rfl
 rw[nB H,nB (by simp)];have aa:0≤m:=by omega
 have ab:0≤u:=by
  by_cases e:CM u=false
  ·exact absurd (.inr (.inr (.inl e))) F
  ·simp[CM]at e;omega
 have ad:0≤g:=by
  by_cases e:CM g=false
  ·exact absurd (.inr (.inr (.inr e))) F
  ·simp[CM]at e;omega
 rw[IW,nB H,H7,VL];have O:(m !=0)=decide (0<m):=by rw[r2];simp;omega
 have Q:(u !=0)=decide (0<u):=by rw[r2];simp;omega
 have R:(g !=0)=decide (0<g):=by rw[r2];simp;omega
 have T:(!decide (d.size=0))=decide (0<d.size):=by rw[r2];simp only[Bool.not_eq_true',decide_eq_false_iff_not,r5];omega
 have V:(k==3)=decide (k=3):=by rw[r2];simp
 have Y:(k !=1)=decide (k≠1):=by rw[r2];simp
 have Z:(k !=2)=decide (k≠2):=by rw[r2];simp
 rw[O,Q,R,T,V,Y,Z];clear O Q R T V Y Z F G H;simp only[Bool.or_eq_true,Bool.and_eq_true,r5,Bool.not_eq_true'];cases up<;>cases J<;>cases o<;>simp only[reduceCtorEq,false_or,or_false,true_or,or_true,and_true,true_and,and_false,false_and,↓reduceIte,Bool.false_eq_true]
 all_goals
  repeat' split
  all_goals first
   |rfl
   |(exfalso;omega)
theorem ML(x F:Int)(w:World):Calls prog 105 #[.int .i64 x,.int .i64 F] w fun e w'=>e=.returned (.bool (decide (x<0)||decide (F<x)))∧w=w':=by
 by_cases h:x<0
 ·have d:decide (x<0)=true:=nE h
  clear h;go_enter func105,ntmps105;go_wp2;go_ret;exact⟨Bf (by rw[d];rfl),rfl⟩
 ·have d:decide (x<0)=false:=nA h
  clear h;go_enter func105,ntmps105;go_wp2;go_ret;exact⟨Bf (by rw[d];rfl),rfl⟩
theorem VE(k m u g:Int)(o:Bool)(nh:List Kv)(d:BA)(ks:At)(h:Hd)(up F:Bool)(W:World)(be:1≤k∧k≤3):
 Calls prog 56 #[Ao (.mk k m u g o nh d ks) h,.bool up,.bool F] W fun e a1=>e=.returned (.bool (H7 up F (.mk k m u g o nh d ks)))∧Below W.heap.size W a1:=by
 have G:=Cc.new W k m u g o nh d ks h;have bf:Below W.heap.size W (W.alloc (Ap k m u g o nh d ks h)):=(nt _ _).alloc (nl _) _;obtain⟨Z,aa⟩:∃Z,Hid (H7 up F (.mk k m u g o nh d ks)=Z):=⟨_,rfl⟩;rw[aa.out];obtain⟨ak,a6⟩:∃t,(m !=0)=t:=⟨_,rfl⟩;obtain⟨ao,a7⟩:∃t,(u !=0)=t:=⟨_,rfl⟩;obtain⟨tg,a8⟩:∃t,(g !=0)=t:=⟨_,rfl⟩;obtain⟨ab,ap⟩:∃t,decide (0<nh.length)=t:=⟨_,rfl⟩;obtain⟨tk,az⟩:∃t,decide (0<ks.length)=t:=⟨_,rfl⟩;obtain⟨ad,hd⟩:∃t,d.toList.isEmpty=t:=⟨_,rfl⟩;have H:Hid (Z=((((k==3&&((((!up||ak)||ao)||tg)||ab))||(k !=1&& !ad))||(k !=2&&(tk||o)))||(o&&(F|| !up)))):=by show _=_;rw[←aa.out,H7,a6,a7,a8,ap,az,hd]
 have bg:decide (0<(nh.length:Int))=ab:=by rw[←ap];congr 1;simp only[eq_iff_iff];omega
 have bi:decide (0<(ks.length:Int))=tk:=by rw[←az];congr 1;simp only[eq_iff_iff];omega
 clear aa;show Calls prog 56 #[(AY k m u g o nh d ks h),.bool up,.bool F] _ _;by_cases ba:k=3
 ·subst ba
  cases up
  ·cases tk<;>cases o<;>cases F
   all_goals
    obtain⟨I,J,O,Q,R,T,V,Y⟩:=G;go_enter func56,ntmps56;go_wp2;go_ret;exact⟨Bf H.out.symm,(nt _ _).alloc (nl _) _⟩
  ·cases ak
   ·cases ao
    ·cases tg
     ·cases ab
      ·cases ad<;>cases tk<;>cases o<;>cases F
       all_goals
        obtain⟨I,J,O,Q,R,T,V,Y⟩:=G;go_enter func56,ntmps56;go_wp2;go_ret;exact⟨Bf H.out.symm,(nt _ _).alloc (nl _) _⟩
      ·cases tk<;>cases o<;>cases F
       all_goals
        obtain⟨I,J,O,Q,R,T,V,Y⟩:=G;go_enter func56,ntmps56;go_wp2;go_ret;exact⟨Bf H.out.symm,(nt _ _).alloc (nl _) _⟩
     ·cases tk<;>cases o<;>cases F
      all_goals
       obtain⟨I,J,O,Q,R,T,V,Y⟩:=G;go_enter func56,ntmps56;go_wp2;go_ret;exact⟨Bf H.out.symm,(nt _ _).alloc (nl _) _⟩
    ·cases tk<;>cases o<;>cases F
     all_goals
      obtain⟨I,J,O,Q,R,T,V,Y⟩:=G;go_enter func56,ntmps56;go_wp2;go_ret;exact⟨Bf H.out.symm,(nt _ _).alloc (nl _) _⟩
   ·cases tk<;>cases o<;>cases F
    all_goals
     obtain⟨I,J,O,Q,R,T,V,Y⟩:=G;go_enter func56,ntmps56;go_wp2;go_ret;exact⟨Bf H.out.symm,(nt _ _).alloc (nl _) _⟩
 by_cases bb:k=2
 ·subst bb
  cases ad<;>cases o<;>cases F<;>cases up
  all_goals
   obtain⟨I,J,O,Q,R,T,V,Y⟩:=G;go_enter func56,ntmps56;go_wp2;go_ret;exact⟨Bf H.out.symm,(nt _ _).alloc (nl _) _⟩
 have bd:k=1:=by omega
 subst bd;cases tk<;>cases o<;>cases F<;>cases up
 all_goals
  obtain⟨I,J,O,Q,R,T,V,Y⟩:=G;go_enter func56,ntmps56;go_wp2;go_ret;exact⟨Bf H.out.symm,(nt _ _).alloc (nl _) _⟩
theorem QZ(u:Int):(decide (u<0)||decide (65535<u))= !CM u:=by
 unfold CM;rw[r2];simp
theorem WV(k m u g:Int)(o:Bool)(nh:List Kv)(d:BA)(ks:At)(h:Hd)(W:World)(bu:nh.length≤1000)(bv:EM nh)(bx:Bm W.cell? h.aa nh):
 Calls prog 55 #[Ao (.mk k m u g o nh d ks) h] W fun e bA=>e=.returned (Am (GQ (.mk k m u g o nh d ks)))∧Below W.heap.size W bA:=by
 have J:Hid (GQ (.mk k m u g o nh d ks)=if k<1∨3<k then 3 else if m<0∨4095<m∨CM u=false∨CM g=false then 1 else if CX nh≠0 then CX nh else if 200<d.size then 1 else 0):=rfl;obtain⟨G,Q⟩:=A3 (GQ (.mk k m u g o nh d ks));rw[Q.out];rw[Q.out]at J;have R:=Cc.new W k m u g o nh d ks h;have H:Below W.heap.size W (W.alloc (Ap k m u g o nh d ks h)):=bN;have Y:=bx.below H;show cL 55 #[(AY k m u g o nh d ks h)] _ _;by_cases T:k<1∨3<k
 ·have V:(k !=1)=true:=bne_iff_ne.2 (by omega)
  have Z:(k !=2)=true:=bne_iff_ne.2 (by omega);have bi:(k !=3)=true:=bne_iff_ne.2 (by omega);have F:Hid (G=3):=by show _=_;rw[J.out,nC T]
  clear T Y J Q;obtain⟨aa,ab,ad,ak,ao,ap,az,a1⟩:=R;go_enter func55,ntmps55;go_wp2;go_ret;exact⟨Cm (AH F.out (by decide)).symm,H⟩
 have bk:Hid (G=if m<0∨4095<m∨CM u=false∨CM g=false then 1 else if CX nh≠0 then CX nh else if 200<d.size then 1 else 0):=by show _=_;rw[J.out,nB T]
 clear J Q;obtain⟨a6,V⟩:∃t,(k !=1)=t:=⟨_,rfl⟩;obtain⟨bl,Z⟩:∃t,(k !=2)=t:=⟨_,rfl⟩;obtain⟨t3,bi⟩:∃t,(k !=3)=t:=⟨_,rfl⟩;have bB:(a6=false)∨(a6=true∧bl=false)∨(a6=true∧bl=true∧t3=false):=by
  have:k=1∨k=2∨k=3:=by omega
  rcases this with rfl|rfl|rfl
  ·left;rw[←V];rfl
  ·right;left;rw[←V,←Z];exact⟨rfl,rfl⟩
  ·right;right;rw[←V,←Z,←bi];exact⟨rfl,rfl,rfl⟩
 clear T;obtain⟨bn,a7⟩:∃t,(decide (m<0)||decide (4095<m))=t:=⟨_,rfl⟩;have bC:=hid a7;obtain⟨a8,ba⟩:∃t,CM u=t:=⟨_,rfl⟩;obtain⟨tg,bb⟩:∃t,CM g=t:=⟨_,rfl⟩;have bF:Hid ((decide (u<0)||decide (65535<u))= !a8):=by show _=_;rw[QZ,ba]
 have bG:Hid ((decide (g<0)||decide (65535<g))= !tg):=by show _=_;rw[QZ,bb]
 have I:Hid (G=if bn=true∨a8=false∨tg=false then 1 else if CX nh≠0 then CX nh else if 200<d.size then 1 else 0):=by
  show _=_;rw[bk.out,ba,bb];congr 1;rw[←a7];simp only[Bool.or_eq_true,r5,or_assoc]
 clear bk a7 ba bb;have bH:=Qf nh;obtain⟨c,bd⟩:∃c,CX nh=c:=⟨_,rfl⟩;have bo:=hid bd;rw[bd]at I bH;clear bd;have bY:∀(fr:Prop),fr→fr:=fun _ h=>h;clear bY
 rcases bB with be|⟨be,bp⟩|⟨be,bp,b0⟩
 all_goals
  subst be;try subst bp
  try subst b0
  have b1:=R;obtain⟨aa,ab,ad,ak,ao,ap,az,a1⟩:=b1;go_enter func55,ntmps55;go_wp2_with fail
  refine(ML m 4095 _).mono ?_;rintro e w' ⟨rfl,rfl⟩;rw[bC.out];cases bn;rotate_left
  ·have F:Hid (G=1):=by show _=_;rw[I.out,nC (.inl rfl)]
   go_wp2;go_ret;exact⟨Cm (AH F.out (by decide)).symm,H⟩
  go_wp2_with fail
  refine(ML u 65535 _).mono ?_;rintro e w' ⟨rfl,rfl⟩;rw[bF.out];cases a8
  ·have F:Hid (G=1):=by show _=_;rw[I.out,nC (.inr (.inl rfl))]
   go_wp2;go_ret;exact⟨Cm (AH F.out (by decide)).symm,H⟩
  go_wp2_with fail
  refine(ML g 65535 _).mono ?_;rintro e w' ⟨rfl,rfl⟩;rw[bG.out];cases tg
  ·have F:Hid (G=1):=by show _=_;rw[I.out,nC (.inr (.inr rfl))]
   go_wp2;go_ret;exact⟨Cm (AH F.out (by decide)).symm,H⟩
  have bf:Hid (G=if c≠0 then c else if 200<d.size then 1 else 0):=by show _=_;rw[I.out,nB (by simp)]
  clear I;go_wp2_with fail
  refine(KH h.aa h.ca nh _ bu bv Y).mono ?_;rintro e b5 ⟨rfl,c2⟩;rw[bo.out];have b2:=R.below c2;have bg:=H.trans (c2.mono H.size);clear aa ab ad ak ao ap az a1 R c2 H Y;obtain⟨aa,ab,ad,ak,ao,ap,az,a1⟩:=b2;by_cases O:c=0;rotate_left
  ·rw[AH rfl O]
   have F:Hid (G=c):=by show _=_;rw[bf.out,nC O]
   have b3:=hid O;clear O;go_wp2;go_ret;exact⟨Cm (AH F.out b3.out).symm,bg⟩
  subst O;rw[Cr rfl];have bs:Hid (G=if 200<d.size then 1 else 0):=by show _=_;rw[bf.out,nB (by simp)]
  clear bf bo;by_cases hd:200<d.size
  ·have b4:decide (200<(d.size:Int))=true:=nE (by omega)
   have F:Hid (G=1):=by show _=_;rw[bs.out,nC hd]
   clear hd;go_wp2;go_ret;exact⟨Cm (AH F.out (by decide)).symm,bg⟩
  ·have b4:decide (200<(d.size:Int))=false:=nA (by omega)
   have F:Hid (G=0):=by show _=_;rw[bs.out,nB hd]
   clear hd;go_wp2;go_ret;exact⟨Cm (Cr F.out).symm,bg⟩
def I0(w:World)(b:Nat)(n:BA):Nd→Hd→Prop
 |.mk k m u g o nh d ks,h=>w.cell? ⟨b,0,none⟩=some (.string n)∧w.cell? ⟨b,1,none⟩=some (.int .i64 k)∧w.cell? ⟨b,2,none⟩=some (.int .i64 m)∧w.cell? ⟨b,3,none⟩=some (.int .i64 u)∧w.cell? ⟨b,4,none⟩=some (.int .i64 g)∧
  w.cell? ⟨b,5,none⟩=some (.bool o)∧w.cell? ⟨b,6,none⟩=some (.slice h.aa nh.length h.ca)∧w.cell? ⟨b,7,none⟩=some (.string d)∧w.cell? ⟨b,8,none⟩=some (.slice h.ak ks.length h.ck)
theorem I0.new(w:World)(n:BA)(k m u g:Int)(o:Bool)(nh:List Kv)(d:BA)(ks:At)(h:Hd)(t:TypeId):
 I0 (w.alloc (.cells #[.string n,iN k,iN m,iN u,iN g,.bool o,.slice h.aa nh.length h.ca,.string d,.slice h.ak ks.length h.ck] t)) w.heap.size n (.mk k m u g o nh d ks) h:=
 ⟨aC,aC,aC,aC,aC,aC,aC,aC,aC⟩
def SL(up:Bool)(w:World)(bc:Nat)(x:Nd)(h:Hd):Prop:=∀(W:World) (F G:Nat),Au bc w W→Dc W bc (.bool up) (.int .i64 G)→F≤7→G≤60→
    Calls prog 26 #[.pointer (some ⟨bc,0,none⟩),Ao x h,.int .i64 F] W fun e H=>e=.returned (Am (CL up x F G).1)∧Au bc W H∧Dc H bc (.bool up) (.int .i64 (CL up x F G).2)
theorem XT(up:Bool){w:World}{bc:Nat}(cg:Option Addr)(cap b bp:Nat)(f:Nat→Hd)(ks:At)(ch:ks=[]∨cg=some (aD b bp))(d1:ks.length≤1000)(cl:∀(i:Nat) (n:BA) (x:Nd),ks[i]? =some (n,x)→n.size≤255)
 (co:∀i n x,ks[i]? =some (n,x)→Dd (GJ w.cell? bc) b (bp+i*9) n x (f i)) (bf:∀i n x,ks[i]? =some (n,x)→SL up w bc x (f i)) (W:World) (G ao:Nat) (c6:Au bc w W) (cp:Dc W bc (.bool up) (iN ao)) (c8:G≤7) (c9:ao≤60):
 Calls prog 57 #[pO bc 0,.slice cg ks.length cap,iN G] W fun e bg=>e=.returned (Am (CG up none ks G ao).1)∧Au bc W bg∧Dc bg bc (.bool up) (iN (CG up none ks G ao).2):=by
 obtain⟨O,b2⟩:=A3 (CG up none ks G ao);rw[b2.out];have cq:=hid co;have da:=hid bf;have db:=hid cl;have dd:=hid ch;clear co bf cl ch;go_enter func57,ntmps57;go_wp2;go_loopw [12] (fun i wr=>∃(j s:Nat),j≤ks.length∧i=iN j∧s≤60∧Hid (O=CG up (EY ks j) (ks.drop j) G s)∧Dc wr bc (.bool up) (iN s)∧Au bc W wr) (fun i _=>ks.length-(intOf i).toNat)
 case atStart=>exact⟨0,ao,nM _,rfl,c9,b2.out.symm,cp,Au.refl _ _⟩
 case round=>
  obtain⟨j,s,d2,rfl,cr,b3,b4,bs⟩:=hrel;clear b2 cp;by_cases b5:j<ks.length;rotate_left
  ·have de:decide ((j:Int)<(ks.length:Int))=false:=nA (by omega)
   have cu:Hid (O=(0,s)):=by show _=_;rw[b3.out,n7 (by omega),CG]
   go_wp2;go_ret;exact⟨Cm (Cr (by rw[cu.out])).symm,bs,by rw[cu.out];exact b4⟩
  have de:(j:Int)<(ks.length:Int):=by omega
  obtain⟨⟨n,x⟩,hx⟩:∃x,ks[j]? =some x:=⟨ks[j],by simp[b5]⟩;have b6:Au bc w wr:=c6.trans bs;have b7:Dd wr.cell? b (bp+j*9) n x (f j):=((cq.out j n x hx).on b6.mle).on (Oc _ _);have ap:=hid (b3.out.trans (XO hx));have b9:=hid (da.out j n x hx);have bu:=Qe up x G s cr;have d3:n.size≤255:=db.out j n x hx;have d4:=hid hx;clear hx b3;rcases dd.out with dg|rfl
  ·rw[dg]at b5;simp at b5
  generalize f j=I at b7 b9;have bv:Hid (∀(W:World),Au bc w W→Dc W bc (.bool up) (.int .i64 s)→Calls prog 26 #[.pointer (some ⟨bc,0,none⟩),Ao x I,.int .i64 G] W fun e bg=>e=.returned (Am (CL up x G s).1)∧Au bc W bg∧Dc bg bc (.bool up) (.int .i64 (CL up x G s).2)):=fun W q1 q2=>b9.out W G s q1 q2 c8 cr;clear b9
  obtain⟨dj,cx⟩:=A3 (CL up x G s);rw[cx.out]at ap bv bu;obtain⟨R,J⟩:=dj;dsimp only at ap bv bu;obtain⟨t,V⟩:∃t,AQ n=t:=⟨_,rfl⟩;have cA:=hid V;rw[V]at ap;clear V cx;obtain⟨bx,bA,bB,bC,bF,bG,bH,bY⟩:=x;obtain⟨dk,dm,dn,dp,dr,ds,du,dw,dx⟩:=b7.nine;clear b7;have cb:=I0.new wr n bx bA bB bC bF bG bH bY I 73;have b0:Below wr.heap.size wr (wr.alloc (.cells #[.string n,iN bx,iN bA,iN bB,iN bC,.bool bF,.slice I.aa bG.length I.ca,.string bH,.slice I.ak bY.length I.ck] 73)):=bN;go_wp2_with fail
  refine(Gc n _).mono ?_;rintro e w' ⟨rfl,rfl⟩;rw[cA.out];have Y:=b4.below b0;have az:=b6.then b0;have Z:=bs.then b0
  have b1:Hid (∀i Q bi,ks[i]? =some (Q,bi)→Ce (wr.alloc (.cells #[.string n,iN bx,iN bA,iN bB,iN bC,.bool bF,.slice I.aa bG.length I.ca,.string bH,.slice I.ak bY.length I.ck] 73)) b (bp+i*9) (.string Q)):=
   fun i Q bi bk=>(((cq.out i Q bi bk).on az.mle).on (Oc _ _)).1
  clear dk dm dn dp dr ds du dw dx b0 b4 b6 bs;generalize wr.alloc (.cells #[.string n,iN bx,iN bA,iN bB,iN bC,.bool bF,.slice I.aa bG.length I.ca,.string bH,.slice I.ak bY.length I.ck] 73)=F at cb Y az Z b1⊢;generalize wr.heap.size=d5 at cb⊢;obtain⟨cB,a1,a6,a7,a8,ba,bb,bd,be⟩:=cb;cases t
  ·have H:Hid (O=(4,s)):=by show _=_;rw[ap.out,nC rfl]
   go_wp2;go_ret;exact⟨Cm (AH (by rw[H.out]) (by decide)).symm,Z,by rw[H.out];exact Y⟩
  have aa:Hid (O=if IX (EY ks j) n=false then(3,s)else if R≠0 then(R,J)else CG up (EY ks (j+1)) (ks.drop (j+1)) G J):=by show _=_;rw[ap.out,nB (by simp)]
  clear ap cA;by_cases c3:j=0
  ·subst c3
   have T:Hid (O=if R≠0 then(R,J)else CG up (EY ks (0+1)) (ks.drop (0+1)) G J):=by show _=_;rw[aa.out,nB (by simp[EY,IX])]
   clear aa b1;go_wp2;go_quiet (fail)
   have ab:Dc (F.drewN nq) bc (.bool up) (.int .i64 s):=Y;have ad:Au bc w (F.drewN nq):=az.drewN nq;have ak:=Z.drewN nq;change(F.drewN nq).cell? _=_ at a1;change(F.drewN nq).cell? _=_ at a6;change(F.drewN nq).cell? _=_ at a7;change(F.drewN nq).cell? _=_ at a8;change(F.drewN nq).cell? _=_ at ba;change(F.drewN nq).cell? _=_ at bb;change(F.drewN nq).cell? _=_ at bd;change(F.drewN nq).cell? _=_ at be;clear Y az Z cB;generalize F.drewN nq=dy at ab ad ak a1 a6 a7 a8 ba bb bd be⊢;go_wp2_with fail
   refine(bv.out _ ad ab).mono ?_;rintro e dz ⟨rfl,bl,bn⟩;have bo:=ak.trans bl;clear a1 a6 a7 a8 ba bb bd be bl ab ad ak;by_cases e:R=0
   ·rw[Cr e]
    have H:Hid (O=CG up (EY ks (0+1)) (ks.drop (0+1)) G J):=by show _=_;rw[T.out,nB (by simp[e])]
    clear e T;go_wp2;go_roundw
    case rel=>exact⟨0+1,J,by omega,by go_num,bu.2,H.out,bn,bo⟩
    case measure=>simp[intOf];omega
   ·rw[AH rfl e]
    have H:Hid (O=(R,J)):=by show _=_;rw[T.out,nC e]
    have cf:=hid e;clear e T;go_wp2;go_ret;exact⟨Cm (AH (by rw[H.out]) cf.out).symm,bo,by rw[H.out];exact bn⟩
  ·obtain⟨i,bf⟩:∃i,j=i+1:=⟨j-1,by omega⟩
   obtain⟨⟨Q,bi⟩,bk⟩:∃p,ks[i]? =some p:=⟨ks[i]'(by omega),np _⟩;have d0:=b1.out i Q bi bk;have c4:Hid (EY ks j=some Q):=by show _=_;rw[bf];simp[EY,bk]
   rw[c4.out]at aa;have d6:decide (0<j)=true:=nE (by omega);have d7:IntKind.i64.wrap ((j:Int)-1)=(i:Int):=(Ez (by omega) (by omega)).trans (by omega);have d8:(j:Int)-1=(i:Int):=by omega
   have dl:(i:Int)<(ks.length:Int):=by omega
   obtain⟨t,V⟩:∃t,AX Q n=t:=⟨_,rfl⟩;have d9:(Op.bytesLess n.toList Q.toList||n.toList==Q.toList)= !t:=by rw[Ov,V]
   have c5:Hid (IX (some Q) n=t):=V;rw[c5.out]at aa;have ea:0<j:=by omega
   clear bf bk V c4 c5 c3 b1;cases t
   ·have H:Hid (O=(3,s)):=by show _=_;rw[aa.out,nC rfl]
    go_wp2;go_quiet (fail)
    go_wp2;go_ret;exact⟨Cm (AH (by rw[H.out]) (by decide)).symm,Z.drewN _,by rw[H.out];exact Y⟩
   have T:Hid (O=if R≠0 then(R,J)else CG up (EY ks (j+1)) (ks.drop (j+1)) G J):=by show _=_;rw[aa.out,nB (by simp)]
   clear aa;go_wp2;go_quiet (fail)
   clear d0;have ab:Dc (F.drewN nq) bc (.bool up) (iN s):=Y;have ad:Au bc w (F.drewN nq):=az.drewN nq;have ak:=Z.drewN nq;change(F.drewN nq).cell? _=_ at a1;change(F.drewN nq).cell? _=_ at a6;change(F.drewN nq).cell? _=_ at a7;change(F.drewN nq).cell? _=_ at a8;change(F.drewN nq).cell? _=_ at ba;change(F.drewN nq).cell? _=_ at bb;change(F.drewN nq).cell? _=_ at bd;change(F.drewN nq).cell? _=_ at be;clear Y az Z cB;generalize F.drewN nq=dy at ab ad ak a1 a6 a7 a8 ba bb bd be⊢;go_wp2_with fail
   refine(bv.out _ ad ab).mono ?_;rintro e dz ⟨rfl,bl,bn⟩;have bo:=ak.trans bl;clear a1 a6 a7 a8 ba bb bd be bl ab ad ak;by_cases e:R=0
   ·rw[Cr e]
    have H:Hid (O=CG up (EY ks (j+1)) (ks.drop (j+1)) G J):=by show _=_;rw[T.out,nB (by simp[e])]
    clear e T;go_wp2;go_roundw
    case rel=>exact⟨j+1,J,by omega,by go_num,bu.2,H.out,bn,bo⟩
    case measure=>simp[intOf];omega
   ·rw[AH rfl e]
    have H:Hid (O=(R,J)):=by show _=_;rw[T.out,nC e]
    have cf:=hid e;clear e T;go_wp2;go_ret;exact⟨Cm (AH (by rw[H.out]) cf.out).symm,bo,by rw[H.out];exact bn⟩
def Kp(w:World)(F bc:Nat)(up:Bool):Nd→Hd→Prop
 |.mk k m u g o nh d ks,h=>w.cell? ⟨F,0,none⟩=some (.int .i64 k)∧w.cell? ⟨F,1,none⟩=some (.int .i64 m)∧w.cell? ⟨F,2,none⟩=some (.int .i64 u)∧w.cell? ⟨F,3,none⟩=some (.int .i64 g)∧
  w.cell? ⟨F,4,none⟩=some (.bool o)∧w.cell? ⟨F,5,none⟩=some (.slice h.aa nh.length h.ca)∧w.cell? ⟨F,6,none⟩=some (.string d)∧w.cell? ⟨F,7,none⟩=some (.slice h.ak ks.length h.ck)∧w.cell? ⟨bc,0,none⟩=some (.bool up)
theorem Kp.of{w:World}{F bc:Nat}{up:Bool}{s:Value}{x:Nd}{h:Hd}(G:Cc w F x h)(H:Dc w bc (.bool up) s):Kp w F bc up x h:=by
 obtain⟨k,m,u,g,o,nh,d,ks⟩:=x;obtain⟨I,J,O,Q,R,T,V,Y⟩:=G;exact⟨I,J,O,Q,R,T,V,Y,H.1⟩
theorem YM(up:Bool){w:World}{bc:Nat}(_hbc:bc<w.heap.size){x:Nd}{h:Hd}(co:Ah (GJ w.cell? bc) x h):AB x→cnt x≤1000→SL up w bc x h:=by
 induction co with
 |@mk k m u g o nh d ks h b cp f cq dz d0 bB bC cr bF=>
  intro bG bH W G F bY Y d1 d2;rw[AB]at bG;rw[cnt]at bH;obtain⟨cu,cx,bn⟩:=bG;obtain⟨d3,cA⟩:=cu;have cB:ks.length≤1000:=by have:=Hs ks;omega
  have d4:=Y.lt;have bb:Hid (CL up (.mk k m u g o nh d ks) G F=if 60≤F∨6<G then(2,F)else if D6 up (decide (G=0)) (.mk k m u g o nh d ks)≠0 then(D6 up (decide (G=0)) (.mk k m u g o nh d ks),F+1)else CG up none ks (G+1) (F+1)):=by show _=_;rw[CL]
  obtain⟨Z,bo⟩:=A3 (CL up (.mk k m u g o nh d ks) G F);rw[bo.out]at bb;rw[bo.out]
  have c3:Hid (∀(W:World) (G F:Nat),Au bc w W→Dc W bc (.bool up) (iN F)→G≤7→F≤60→cL 57 #[pO bc 0,.slice h.ak ks.length h.ck,iN G] W fun e b0=>e=.returned (Am (CG up none ks G F).1)∧Au bc W b0∧Dc b0 bc (.bool up) (iN (CG up none ks G F).2)):=
   fun W G F q1 q2 c4 q4=>XT up h.ak h.ck b cp f ks bB cB (fun i n x aa=>(J1 bn aa).1) bC (fun i n x aa=>bF i n x aa (J1 bn aa).2 (by have:=Iw aa;omega)) W G F q1 q2 c4 q4
  clear bC cr bF bB bn bH cx;show cL 26 #[pO bc 0,(AY k m u g o nh d ks h),iN G] _ _;by_cases ab:60≤F∨6<G
  ·have H:Hid (Z=(2,F)):=by show _=_;rw[bb.out,nC ab]
   have c5:=hid ab;have Q:Au bc W (W.alloc (Ap k m u g o nh d ks h)):=(Au.refl _ _).alloc _;have R:=Y.below ((nt _ _).alloc (nl _) (Ap k m u g o nh d ks h));have c6:=R;obtain⟨t0,b1,b2,t3⟩:=c6;clear ab;by_cases b3:F=60
   ·subst b3
    go_enter func26,ntmps26;go_wp2;go_ret;exact⟨Cm (AH (by rw[H.out]) (by decide)).symm,Q,by rw[H.out];exact R⟩
   ·have c8:((F:Int)==60)=false:=by simp;omega
    have d5:decide (6<(G:Int))=true:=nE (by rcases c5.out with e|e<;>omega);clear b3;go_enter func26,ntmps26;go_wp2;go_ret;exact⟨Cm (AH (by rw[H.out]) (by decide)).symm,Q,by rw[H.out];exact R⟩
  have d6:F<60:=by omega
  have d7:G≤6:=by omega
  have c8:((F:Int)==60)=false:=by simp;omega
  have d8:=nA (by omega);obtain⟨I,c9⟩:∃I,((G:Int)==0)=I:=⟨_,rfl⟩;have b4:Hid (decide (G=0)=I):=by
   show _=_;rw[←c9];by_cases e:G=0
   ·subst e;rfl
   ·rw[nA e];symm;simpa using e
  have bd:Hid (Z=if D6 up I (.mk k m u g o nh d ks)≠0 then(D6 up I (.mk k m u g o nh d ks),F+1)else CG up none ks (G+1) (F+1)):=by
   show _=_;rw[bb.out,nB ab,b4.out]
  have be:Hid (D6 up I (.mk k m u g o nh d ks)=if GQ (.mk k m u g o nh d ks)≠0 then GQ (.mk k m u g o nh d ks)else if H7 up I (.mk k m u g o nh d ks)=true then 3 else 0):=XQ up I _;clear bb ab bo b4;obtain⟨c,bf⟩:=A3 (GQ (.mk k m u g o nh d ks));rw[bf.out]at be;have b5:Hid (c=0→1≤k∧k≤3):=by
   intro e;have:=bf.out;rw[e,GQ]at this;by_cases q:k<1∨3<k
   ·rw[nC q]at this;cases this
   ·omega
  have b6:=Y.set1 (iN ((F:Int)+1));have b7:Au bc W (W.setCell (aD bc 1) (iN ((F:Int)+1))):=(Au.refl _ _).setCell 1 none _;have bg:=Cc.new (W.setCell (aD bc 1) (iN ((F:Int)+1))) k m u g o nh d ks h;rw[World.size_setCell]at bg;have Q:Below (W.setCell (aD bc 1) (iN ((F:Int)+1))).heap.size (W.setCell (aD bc 1) (iN ((F:Int)+1))) ((W.setCell (aD bc 1) (iN ((F:Int)+1))).alloc (Ap k m u g o nh d ks h)):=bN;have R:=b6.below Q;have bp:=b7.then Q;have b9:=(cq.on (bY.trans bp).mle).on (Oc _ _);have da:=Y.below ((nt _ _).alloc (nl _) (Ap k m u g o nh d ks h));obtain⟨db,dd,de,dg⟩:=Y;obtain⟨t0,b1,b2,t3⟩:=da;have dj:=bg;obtain⟨ad,ak,ao,ap,az,a1,a6,a7⟩:=dj;clear b6 b7;go_enter func26,ntmps26;go_wp2_with fail
  refine(WV k m u g o nh d ks h _ (by omega) cA b9).mono ?_;rintro e bi ⟨rfl,c2⟩;rw[bf.out];have a8:=bg.below c2;have cb:=R.below c2;have bs:=bp.then c2;clear ad ak ao ap az a1 a6 a7 db dd de dg t0 b1 b2 t3 bg R bp c2 Q b9;generalize d9:W.heap.size=J at a8⊢;have ba:Dc bi bc (.bool up) (iN ((F+1:Nat):Int)):=by
   have e:((F+1:Nat):Int)=(F:Int)+1:=by omega
   rw[e];exact cb
  by_cases O:c=0;rotate_left
  ·have H:Hid (Z=(c,F+1)):=by show _=_;rw[bd.out,be.out,nC O,nC O]
   have dk:=hid O;rw[AH rfl O];clear O;go_wp2;go_ret;exact⟨Cm (AH (by rw[H.out]) dk.out).symm,bs,by rw[H.out];exact ba⟩
  have dm:=b5.out O;subst O;rw[Cr rfl];have bk:Hid (D6 up I (.mk k m u g o nh d ks)=if H7 up I (.mk k m u g o nh d ks)=true then 3 else 0):=by show _=_;rw[be.out,nB (by simp)]
  obtain⟨dn,bu⟩:∃t,H7 up I (.mk k m u g o nh d ks)=t:=⟨_,rfl⟩;have dp:=hid bu;rw[bu]at bk;clear bu be bf b5 cb;have dr:=Kp.of a8 ba;have T:Below bi.heap.size bi bi.drew:=rz (nt _ _) 1;have cf:=Kp.of (a8.below T) (ba.below T);have bv:=a8.below T;have bx:=ba.below T;have cg:=bs.then T;obtain⟨ad,ak,ao,ap,az,a1,a6,a7,ds⟩:=dr;go_wp2;go_region_held3 (fun w'=>Ce w' J 0 (iN k)∧Ce w' J 1 (iN m)∧Ce w' J 2 (iN u)∧Ce w' J 3 (iN g)∧Ce w' J 4 (.bool o)∧Ce w' J 5 (.slice h.aa nh.length h.ca)∧Ce w' J 6 (.string d)∧Ce w' J 7 (.slice h.ak ks.length h.ck)∧Ce w' bc 0 (.bool up)) (first|exact cf|exact du) (first|(go_at_call 56;refine(VE k m u g o nh d ks h up I _ dm).mono ?_;rintro e dw ⟨rfl,V⟩;have du:=Kp.of (bv.below V) (bx.below V)))
  all_goals
   have dx:=bv.below V;have bA:=bx.below V;have bl:=cg.then V;have ch:Au bc w dw:=bY.trans bl;rw[dp.out];clear ad ak ao ap az a1 a6 a7 ds V bv bx cg cf a8 ba bs T;cases dn
   ·have H:Hid (Z=CG up none ks (G+1) (F+1)):=by show _=_;rw[bd.out,bk.out];rfl
    clear bd bk;obtain⟨ad,ak,ao,ap,az,a1,a6,a7⟩:=dx;go_wp2_with fail
    refine(c3.out _ (G+1) (F+1) ch bA (by omega) (by omega)).mono ?_;rintro e ea ⟨rfl,c7,cl⟩;have dy:=bl.trans c7;rw[←H.out]at cl⊢;clear ad ak ao ap az a1 a6 a7 c7 bl bA ch;go_wp2;go_ret;exact⟨rfl,dy,cl⟩
   ·have H:Hid (Z=(3,F+1)):=by show _=_;rw[bd.out,bk.out];rfl
    go_wp2;go_ret;exact⟨Cm (AH (by rw[H.out]) (by decide)).symm,bl,by rw[H.out];exact bA⟩
theorem KC(up:Bool){w:World}{x:Nd}{h:Hd}(Y:Ah w.cell? x h)(Z:AB x)(aa:cnt x≤1000):
 Calls prog 11 #[Ao x h,.bool up] w fun e F=>e=.returned (Am (DN up x))∧Below w.heap.size w F:=by
 obtain⟨J,O⟩:=A3 (DN up x);rw[O.out];obtain⟨k,m,u,g,o,nh,d,ks⟩:=x;have Q:Hid (J=if k≠2 then 7 else(CL up (.mk k m u g o nh d ks) 0 0).1):=by show _=_;rw[←O.out,DN]
 have R:=Cc.new w k m u g o nh d ks h;have G:Below w.heap.size w (w.alloc (Ap k m u g o nh d ks h)):=bN;by_cases H:k=2;rotate_left
 ·have bg:(k !=2)=true:=bne_iff_ne.2 H
  have T:Hid (J=7):=by show _=_;rw[Q.out,nC H]
  clear H;show cL 11 #[(AY k m u g o nh d ks h),.bool up] _ _;obtain⟨ab,ad,ak,ao,ap,az,a1,a6⟩:=R;go_enter func11,ntmps11;go_wp2;go_ret;exact⟨Cm (AH T.out (by decide)).symm,G⟩
 subst H;have T:Hid (J=(CL up (.mk 2 m u g o nh d ks) 0 0).1):=by show _=_;rw[Q.out,nB (by decide)]
 clear Q O;have V:Below w.heap.size w ((w.alloc (.cells #[iN 2,iN m,iN u,iN g,.bool o,.slice h.aa nh.length h.ca,.string d,.slice h.ak ks.length h.ck] 50)).alloc (.cells #[.bool up,iN 0] 76)):=G.alloc G.size _;have I:=Dc.new (w.alloc (.cells #[iN 2,iN m,iN u,iN g,.bool o,.slice h.aa nh.length h.ca,.string d,.slice h.ak ks.length h.ck] 50)) (.bool up) (iN 0) 76;rw[nv]at I;have a7:=R.below ((nt _ _).alloc (nl _) (.cells #[.bool up,iN 0] 76))
 have a8:Hid (∀F,Au (w.heap.size+1) ((w.alloc (.cells #[iN 2,iN m,iN u,iN g,.bool o,.slice h.aa nh.length h.ca,.string d,.slice h.ak ks.length h.ck] 50)).alloc (.cells #[.bool up,iN 0] 76)) F→Dc F (w.heap.size+1) (.bool up) (iN 0)→cL 26 #[pO (w.heap.size+1) 0,Ao (.mk 2 m u g o nh d ks) h,iN 0] F fun e W2=>e=.returned (Am (CL up (.mk 2 m u g o nh d ks) 0 0).1)∧Au (w.heap.size+1) F W2∧Dc W2 (w.heap.size+1) (.bool up) (iN (CL up (.mk 2 m u g o nh d ks) 0 0).2)):=
  fun F q1 q2=>YM up (w:=((w.alloc (.cells #[iN 2,iN m,iN u,iN g,.bool o,.slice h.aa nh.length h.ca,.string d,.slice h.ak ks.length h.ck] 50)).alloc (.cells #[.bool up,iN 0] 76))) (bc:=w.heap.size+1) I.lt (Y.on (af V (by omega))) Z aa F 0 0 q1 q2 (by omega) (by omega)
 clear Y Z aa;show cL 11 #[.agg #[iN 2,iN m,iN u,iN g,.bool o,.slice h.aa nh.length h.ca,.string d,.slice h.ak ks.length h.ck],.bool up] _ _;obtain⟨ab,ad,ak,ao,ap,az,a1,a6⟩:=R;obtain⟨z0,ba,bb,z3,z4,z5,bd,be⟩:=a7;go_enter func11,ntmps11;go_wp2_with fail
 refine(a8.out _ (Au.refl _ _) I).mono ?_;rintro e bi ⟨rfl,c2,_⟩;have bf:=V.trans (c2.below (B:=w.heap.size) (by omega) (by simp;omega));clear ab ad ak ao ap az a1 a6 z0 ba bb z3 z4 z5 bd be c2 V I G;rw[←T.out];go_wp2;go_ret;exact⟨rfl,bf⟩
theorem Ot{c:AJ}{b:Nat}:∀(H:List Nd) (F:Nat) (f:Nat→Hd),(∀i x,H[i]? =some x→Bj c b (F+i*8) x (f i)∧Ah c x (f i))→
 ∃L:List Fl,L.map Fl.x=H∧(∀j u,(Be L)[j]? =some u→c (aD b (F+j))=some u)∧∀z∈L,Ah c z.x z.h
 |[],F,f,_=>⟨[],rfl,fun j u h=>by simp[Be]at h,fun z I=>by cases I⟩
 |x::H,F,f,h=>by
  obtain⟨L,J,O,Q⟩:=Ot H (F+8) (fun i=>f (i+1)) fun i y R=>by
   have:=h (i+1) y (by simpa using R);rw[show F+(i+1)*8=F+8+i*8 by omega]at this;exact this
  obtain⟨g1,T⟩:=h 0 x rfl;refine⟨⟨x,f 0,0⟩::L,by rw[rh,J],fun j u G=>?_,fun z I=>?_⟩
  ·rw[Be]at G
   by_cases V:j<8
   ·rw[rH (by simp[DT];omega)]at G
    have:=Fe.1 g1 j u G;rwa [r3,rT]at this
   ·rw[rm (by simp[DT];omega),DT]at G
    have:=O (j-8) u G;rwa [show F+8+(j-8)=F+j by omega]at this
  ·rcases nX.1 I with e|e
   ·rw[e];exact T
   ·exact Q z e
theorem NP:∀(A:List Fl),∀u∈Be A,u.oneCell'=true
 |[],u,h=>by simp[Be]at h
 |f::r,u,hu=>by
  rw[Be]at hu;rcases rd.1 hu with e|e
  ·exact J8 _ _ u e
  ·exact NP r u e
theorem D7.apps{w:World}{v F:Value}{L:List Fl}{wr w':World}(h:D7 w v L wr){G:List Fl}(Q:∀f∈G,Ah (Ag wr.cell? (fun k=>v.ownBlock==some k)) f.x f.h)(R:w'.ownsRow w.heap.size 50 8 F (L++G).length (Be (L++G)))(I:wr.grownBy w' v.ownBlock)(T:F.ownBlock=v.ownBlock∨F.ownBlock=some wr.heap.size):D7 w F (L++G) w':=by
 have J:AR (Ag wr.cell? (fun k=>v.ownBlock==some k)) (Ag w'.cell? (fun k=>F.ownBlock==some k)):=Cb fun k V H=>by
  simp at H;refine⟨?_,I.block k V (fun e=>H e.symm)⟩;simp;rcases T with e|e
  ·rw[e];exact H
  ·rw[e];intro Y;cases Y;omega
 refine⟨h.low.grown I h.low.size (fun g e=>(h.row.lt g e).1),R,fun O Z=>?_⟩;rcases rd.1 Z with e|e
 ·exact(h.nd O e).on J
 ·exact(Q O e).on J
theorem aR{xs:List Nd}(h:Hu xs=true):xs.length≤5∧∀x∈xs,AB x∧cnt x≤80:=by
 unfold Hu at h;rw[Bool.and_eq_true]at h;refine⟨rI h.1,fun x hx=>?_⟩;have F:=rI (List.all_eq_true.1 h.2 x hx);have G:=Qq x 80 F;exact⟨G.1,by omega⟩
structure Fo (n:Nat) (x0:Nd) (ni:List Nd):Prop where
 lil:AB x0
 ids:AM x0
 cnt:cnt x0≤n
 low:∀x∈ni,AB x∧AM x∧Go.Proofs.YtgppjbhaimmlpaaGreatDoor.cnt x≤100
 len:ni.length≤4
theorem bQ{l:AU}(h:∀q∈l,cnt q.1≤100):tot l≤100*l.length:=by
 induction l with
 |nil=>exact nM _
 |cons q r F=>
  have H:=h q (nJ ..);have I:=F fun p G=>h p (n2 _ G);rw[tot,n3]
  omega
theorem Fo.ok{n:Nat}{x0:Nd}{ni:List Nd}(h:Fo n x0 ni)(J:n≤400):EW (x0::ni)where
 lil:=fun x hx=>by
  rcases nX.1 hx with rfl|hx
  ·exact h.lil
  ·exact(h.low x hx).1
 tot:=by
  have e:BD (x0::ni)=(x0,0)::ni.zipIdx 1:=rfl;rw[e,tot]
  have G:=bQ (l:=ni.zipIdx 1) fun q H=>(h.low q.1 (by
   obtain⟨i,F⟩:=n5 H;rw[List.getElem?_zipIdx]at F;obtain⟨y,I,rfl⟩:=nY.1 F;exact nD I)).2.2
  rw[List.length_zipIdx]at G;have:=h.cnt;have:=h.len;show Go.Proofs.YtgppjbhaimmlpaaGreatDoor.cnt x0+_≤1000;omega
 ids:=fun x hx=>by
  rcases nX.1 hx with rfl|hx
  ·exact h.ids
  ·exact(h.low x hx).2.1
def Gu(F:Except Int Nd)(x0:Nd):Int×Nd:=(EG F,if EG F=0 then DM F else x0)
def Bo(us gs:List Rg)(x0:Nd)(ni:List Nd)(nf:List BA):Int×Nd:=Gu (DL us gs (x0::ni) nf x0) x0
def Cn(n:Nd)(nf:List BA)(x0:Nd):Int×Nd:=if nf=[]then(0,n)else Gu (AG (some n) nf x0) x0
def Ih:Nd:=.mk 3 0 0 0 false [] ⟨#[]⟩ []
def Et(us gs:List Rg)(x0:Nd)(ni:List Nd)(nf:List BA):Int×Nd:=
 if(Bo us gs x0 ni nf.dropLast).1=0 then(if DX ((Bo us gs x0 ni nf.dropLast).2::ni) nf=true then Cn Ih nf (Bo us gs x0 ni nf.dropLast).2 else Gu (AG none nf (Bo us gs x0 ni nf.dropLast).2) (Bo us gs x0 ni nf.dropLast).2)else Bo us gs x0 ni nf.dropLast
theorem MH(w:World)(an:Option Addr)(nj:Nat)(nf:List BA)(G:nf≠[])(H:nf.length≤nj∧nj≤9223372036854775807):
 Calls prog 88 #[.slice an nf.length nj] w fun e w'=>e=.returned (.slice an nf.dropLast.length nj)∧Bw w w':=by
 obtain⟨n,F⟩:∃n,nf.length=n+1:=⟨nf.length-1,by have:=ri.2 G;omega⟩;rw[r7,F];rw[F]at H;clear F G;go_enter func88,ntmps88;go_wp2;go_ret;exact⟨rfl,nt _ _⟩
theorem J7{I w:World}{F G lc:Nat}{M:CE}{x0:Nd}{ni:List Nd}(h:Bd I w F G lc M x0 ni){n:Nat}(Y:Fo n x0 ni)(ba:n≤400){an:Option Addr}{nj:Nat}{nf:List BA}(ao:A0 I.cell? an nf)(bb:nf.length≤500)(bd:nf.length≤nj∧nj≤9223372036854775807):
 Calls prog 87 #[.pointer (some ⟨F,0,none⟩),.slice an nf.length nj] w fun e w'=>e=.returned (Am (Bo M.us M.gs x0 ni nf).1)∧Bd I w' F G lc M (Bo M.us M.gs x0 ni nf).2 ni∧Au G w w':=by
 have hd:=h.below ((nt w.heap.size w).drew);obtain⟨H,ad⟩:∃H,Hid (DL M.us M.gs (x0::ni) nf x0=H):=⟨_,rfl⟩;have Z:Hid (Calls prog 136 #[.slice (some ⟨G,0,none⟩) (ni.length+1) lc,M.v,.slice an nf.length nj] w.drew fun e ak=>(∃h',e=.returned (.tuple #[Ao (DM H) h',Am (EG H)])∧Ah ak.cell? (DM H) h')∧Bw w.drew ak):=by
  have aa:=Y.ok ba;have e:=cm (W:=w.drew) (S:=fun _=>false) (a:=some ⟨G,0,none⟩) (cap:=lc) (an:=an) (nj:=nj) (nf:=nf) (xs:=x0::ni) (M:=M) (U:=x0) (fun _ be=>by cases be) (by rw[C4];exact hd.lay) (by rw[C4];exact ao.on (Aj hd.base)) aa.len bb bd aa.small aa.lim (fun q bf=>aa.ids _ (Jg bf)) hd.mapsW (fun x hx=>by cases hx;rfl) (by have:=Y.cnt;omega) (UK _ Y.lil);rw[ad.out]at e;refine nn e ?_;rintro e ak ⟨⟨h',bg,ap⟩,bi⟩;rw[C4]at ap;exact⟨⟨h',bg,ap⟩,bi⟩
 show Calls prog 87 #[.pointer (some ⟨F,0,none⟩),.slice an nf.length nj] w fun e w'=>e=.returned (Am (Gu (DL M.us M.gs (x0::ni) nf x0) x0).1)∧Bd I w' F G lc M (Gu (DL M.us M.gs (x0::ni) nf x0) x0).2 ni∧Au G w w';rw[ad.out]
 have bk:Hid _:=hd;obtain⟨J,O,uc,gc,us,gs⟩:=M;have bl:w.drew.cell? ⟨F,0,none⟩=some (.slice J us.length uc)∧w.drew.cell? ⟨F,1,none⟩=some (.slice O gs.length gc)∧w.drew.cell? ⟨F,2,none⟩=some (.slice (some ⟨G,0,none⟩) (ni.length+1) lc):=⟨hd.c0,hd.c1,hd.c2⟩;have bn:Hid (Au G w w.drew):=Au.of_below ((nt w.heap.size w).drew);clear h hd Y ao;unfold CE.v at Z;dsimp only at Z;unfold Gu;dsimp only;generalize DM H=az at*;generalize EG H=E at*;clear ad;obtain⟨ab,a1⟩:∃ab,Hid ((if E=0 then az else x0)=ab):=⟨_,rfl⟩;rw[a1.out];go_enter func87,ntmps87;go_upto_region 1 with fail
 go_region_held3 (fun w'=>w'.cell? ⟨F,0,none⟩=some (.slice J us.length uc)∧w'.cell? ⟨F,1,none⟩=some (.slice O gs.length gc)∧w'.cell? ⟨F,2,none⟩=some (.slice (some ⟨G,0,none⟩) (ni.length+1) lc)) (first|with_reducible exact bl|with_reducible exact bo|with_reducible exact bp) (first|(go_at_call 136;(with_reducible refine nn Z.out ?_);rintro e Q ⟨⟨bs,rfl,a6⟩,q6⟩;have R:=bk.out.below q6;have bo:Q.cell? ⟨F,0,none⟩=some (.slice J us.length uc)∧Q.cell? ⟨F,1,none⟩=some (.slice O gs.length gc)∧Q.cell? ⟨F,2,none⟩=some (.slice (some ⟨G,0,none⟩) (ni.length+1) lc):=⟨R.c0,R.c1,R.c2⟩;have a7:Hid (Calls prog 131 #[.pointer (some ⟨F,0,none⟩),Ao az bs,Am E] Q fun e w'=>e=.returned (Am E)∧Bd I w' F G lc ⟨J,O,uc,gc,us,gs⟩ ab ni∧Au G Q w'):=(by have e:=La R a6 E;rw[a1.out]at e;exact e);have bu:Hid (Au G w Q):=bn.out.then q6;clear Z a6 q6 R)|(go_at_call 131;(with_reducible refine nn a7.out ?_);rintro e T ⟨rfl,V,a8⟩;have bp:T.cell? ⟨F,0,none⟩=some (.slice J us.length uc)∧T.cell? ⟨F,1,none⟩=some (.slice O gs.length gc)∧T.cell? ⟨F,2,none⟩=some (.slice (some ⟨G,0,none⟩) (ni.length+1) lc):=⟨V.c0,V.c1,V.c2⟩;have bv:Hid (Bd I T F G lc ⟨J,O,uc,gc,us,gs⟩ ab ni):=V;have bx:Hid (Au G w T):=bu.out.trans a8;clear a7 V a8))
 all_goals
  go_wp2;go_ret;exact⟨rfl,bv.out,bx.out⟩
structure Cs (us gs:List Rg) (ni:List Nd) (n:Nat) (V:Nd):Prop where
 own:Ct us gs V (ni.zipIdx 1)
 lil:AB V
 ids:AM V
 cnt:Go.Proofs.YtgppjbhaimmlpaaGreatDoor.cnt V≤n
theorem MK:∀(N F:List BA) (x y:Nd),AV N x=some y→AV (N++F) x=AV F y
 |[],F,x,y,h=>by rw[AV]at h;cases h;rfl
 |m::N,F,x,y,h=>by
  rw[CJ]at h;rw[n9,CJ];by_cases G:x.kind=2
  ·rw[nB (by simp[G])]at h⊢
   cases hf:fk m x.kids with
   |none=>rw[hf]at h;cases h
   |some z=>rw[hf]at h;exact MK N F z y h
  ·rw[nC G]at h;cases h
theorem PM{us gs:List Rg}:∀(G:List BA) (I:AU) (nm:BA) (L:List (Nd×BA)),H0 us gs G I nm L→∃y,AV G (BN L)=some y∧y.kind≠3∧y.kids=[]
 |[],I,nm,L,h=>by
  obtain⟨q,r,y,J,H,rfl⟩:=h;refine⟨y,by rw[BN,AV],?_,(Gz H).2.trans (JO _)⟩;rw[(Gz H).1.trans (JN _)];rcases(GT J).2 with e|e
  ·rw[e];decide
  ·rw[e.1];decide
 |n::G,I,nm,L,h=>by
  obtain⟨q,r,y,F,J,H,O,rfl⟩:=h;obtain⟨Q,z,aa,R⟩:=PU O;have T:y.kind=2:=by
   rw[(Gz H).1.trans (JN _)];rcases(GT J).2 with e|e
   ·exact e
   ·exfalso
    obtain⟨V,rfl⟩:=e;apply Q;rw[X3,Yf (by rw[V];decide)];rfl
  have e:BN ((y,nm)::F)=y.with [(n,BN F)]:=by rw[R];rfl
  obtain⟨v,Y,Z,v3⟩:=PM G _ n F O;refine⟨v,?_,Z,v3⟩;rw[e,CJ,nB (by rw[FZ,T];simp),FH];have:fk n [(n,BN F)]=some (BN F):=by simp[fk]
  rw[this];exact Y
theorem KM{us gs:List Rg}{F:List BA}{L:List (Nd×BA)}:∀{N:List BA} {x:Nd} {t:AU},Mi us gs F L N x t→(∃G nm,H0 us gs F G nm L)∧AV N x=none
 |[],x,t,h=>h.elim
 |[m],x,t,h=>⟨⟨_,_,h.2.2⟩,by rw[CJ,nB (by rw[h.1];simp),h.2.1]⟩
 |m::m'::N,x,t,h=>by
  obtain⟨H,y,I,_,J⟩:=h;obtain⟨a,b⟩:=KM J;refine⟨a,?_⟩;rw[CJ,nB (by rw[H];simp),I];exact b
theorem Zh{xs:List Nd}{nf:List BA}{z:Nd}{ly:Nat}{r:AU}(h:AP xs nf=(z,ly)::r):z.kind≠3:=by
 obtain⟨G,F⟩:=SO xs nf;rw[←F]at h;rcases(GT h).2 with e|e
 ·have e:z.kind=2:=e
  rw[e];decide
 ·have e:z.kind=1:=e.1
  rw[e];decide
theorem Sj{us gs:List Rg}{x0:Nd}{ni:List Nd}{nf:List BA}{G:Nd}(H:∀s∈nf,AQ s=true)(h:DL us gs (x0::ni) nf x0=.ok G):∃y,AV nf G=some y∧y.kind≠3∧(G=x0∨AV nf x0=none∧y.kids=[]):=by
 rcases(JR (fun _ _ i Q=>H _ (List.getElem_mem Q))).1 G h with⟨rfl,z,r,R,T⟩|⟨N,V,L,rfl,I,J⟩
 ·exact⟨z,T,Zh R,.inl rfl⟩
 ·obtain⟨⟨ak,nm,Y⟩,F⟩:=KM I
  obtain⟨y,Z,aa,ab⟩:=PM _ _ _ _ Y;refine⟨y,?_,aa,.inr ⟨?_,ab⟩⟩
  ·rw[MK N V G _ (SD J)]
   exact Z
  ·clear I J h H
   revert F;induction N generalizing x0 with
   |nil=>intro F;rw[AV]at F;cases F
   |cons m N ad=>
    intro F;rw[CJ]at F;rw[n9,CJ];by_cases O:x0.kind=2
    ·rw[nB (by simp[O])]at F⊢
     cases hf:fk m x0.kids with
     |none=>rfl
     |some z=>rw[hf]at F;exact ad F
    ·rw[nC O]
theorem Tc{F:Except Int Nd}(H:∀f,F=.error f→f≠0)(h:EG F=0):∃G,F=.ok G:=by
 cases F with
 |ok G=>exact⟨G,rfl⟩
 |error f=>exact absurd h (H f rfl)
theorem Lr{us gs:List Rg}{x0:Nd}{ni:List Nd}{nf:List BA}(F:∀s∈nf,AQ s=true)(h:(Bo us gs x0 ni nf).1=0):DL us gs (x0::ni) nf x0=.ok (Bo us gs x0 ni nf).2:=by
 unfold Bo Gu at h⊢
 obtain⟨J,G⟩:=Tc (fun f H=>by
  rcases(JR (fun _ _ i I=>F _ (List.getElem_mem I))).2 f H with e|e
  ·rw[e];decide
  ·rw[e];decide) h
 rw[G];rfl
theorem Ou{c:Option Nd}{nf:List BA}{x0:Nd}(h:(Gu (AG c nf x0) x0).1=0):AG c nf x0=.ok (Gu (AG c nf x0) x0).2:=by
 unfold Gu at h⊢;obtain⟨H,F⟩:=Tc (fun f G=>by have:=(Yo G).1;omega) h;rw[F];rfl
theorem RS{m:BA}:∀{ks:At},Bu ks→Bu (DA m ks)
 |[],h=>h
 |(n,x)::l,h=>by
  rw[Bu]at h;rw[DA];split
  ·exact h.2
  ·rw[Bu];exact⟨h.1,RS h.2⟩
theorem Iv{x:Nd}{ks:At}:AM (x.with ks)↔AM (x.with [])∧Bu ks:=by
 obtain⟨k,m,u,g,o,nh,d,F⟩:=x;rw[Nd.with,Nd.with,AM,AM,Bu];exact⟨fun h=>⟨⟨h.1,h.2.1,trivial⟩,h.2.2⟩,fun h=>⟨h.1.1,h.1.2.1,h.2⟩⟩
theorem Oj{m:BA}{y:Nd}:∀{ks:At},Bu ks→fk m ks=some y→AM y
 |[],_,h=>by cases h
 |(n,x)::l,hv,h=>by
  rw[Bu]at hv;rw[fk]at h;split at h
  ·cases h;exact hv.1
  ·exact Oj hv.2 h
theorem Rc{m:BA}{z:Nd}(F:AM z):∀{ks:At},Bu ks→Bu (BQ m z ks)
 |[],h=>h
 |(n,x)::l,h=>by
  rw[Bu]at h;rw[BQ];split
  ·rw[Bu];exact⟨F,h.2⟩
  ·rw[Bu];exact⟨h.1,Rc F h.2⟩
theorem TL:∀{l:List BA} {n r:Nd},AG none l n=.ok r→AM n→AM r
 |[],n,r,h,_=>by rw[AG]at h;cases h
 |[m],n,r,h,hi=>by
  rw[Gf]at h;by_cases F:n.kind=2
  ·rw[nB (by simp[F])]at h
   simp only[Dy]at h;split at h
   ·cases h
   injection h with h
   subst h;rw[←Nd.eta n]at hi;exact Iv.2 ⟨(Iv.1 hi).1,RS (Iv.1 hi).2⟩
  ·rw[nC F]at h;cases h
 |m::H::N,n,r,h,hi=>by
  rw[Gg]at h;by_cases F:n.kind=2
  ·rw[nB (by simp[F])]at h
   cases hf:fk m n.kids with
   |none=>rw[hf]at h;cases h
   |some y=>
    rw[hf]at h;dsimp only at h;cases hy:AG none (H::N) y with
    |error f=>rw[hy]at h;cases h
    |ok z=>
     rw[hy]at h;have h:Except.ok (n.with (BQ m z n.kids))=Except.ok r:=h;injection h with h
     subst h;rw[←Nd.eta n]at hi;have G:=(Iv.1 hi).2;exact Iv.2 ⟨(Iv.1 hi).1,Rc (TL hy (Oj G hf)) G⟩
  ·rw[nC F]at h;cases h
theorem MZ:∀{l:List BA} {x y:Nd},AV l x=some y→AB x→AM x→AB y∧AM y∧cnt y≤cnt x
 |[],x,y,h,h1,h2=>by rw[AV]at h;cases h;exact⟨h1,h2,nl _⟩
 |m::l,x,y,h,h1,h2=>by
  have G:=(R0 h).2;rw[CJ]at h;by_cases F:x.kind=2
  ·rw[nB (by simp[F])]at h
   cases hf:fk m x.kids with
   |none=>rw[hf]at h;cases h
   |some z=>
    rw[hf]at h;rw[←Nd.eta x]at h1 h2;obtain⟨a,b,_⟩:=MZ h (Lv (GW.1 h1).2 hf) (Oj (Iv.1 h2).2 hf);exact⟨a,b,G⟩
  ·rw[nC F]at h;cases h
theorem Cs.up{us gs:List Rg}{x0:Nd}{ni:List Nd}{nf:List BA}{n:Nat}(F:∀s∈nf,AQ s=true)(H:∀x∈ni,AB x)(h:Cs us gs ni n x0)(I:(Bo us gs x0 ni nf).1=0):Cs us gs ni (n+nf.length) (Bo us gs x0 ni nf).2:=by
 have G:=Lr F I
 obtain⟨a,b,c⟩:=cy (fun x hx=>by
  rcases nX.1 hx with rfl|hx
  ·exact h.lil
  ·exact H x hx) h.lil h.ids G
 exact⟨bX F h.own G,a,b,by have:=h.cnt;omega⟩
theorem Cs.put{us gs:List Rg}{x0 z:Nd}{ni:List Nd}{nf:List BA}{n k:Nat}(h:Cs us gs ni n x0)(I:Ct us gs z (Ef nf x0 (ni.zipIdx 1)))(J:AB z)(O:AM z)(R:Go.Proofs.YtgppjbhaimmlpaaGreatDoor.cnt z≤k)(G:(Cn z nf x0).1=0):Cs us gs ni (n+k) (Cn z nf x0).2:=by
 unfold Cn at G⊢;by_cases Q:nf=[]
 ·subst Q
  rw[nC rfl];exact⟨I,J,O,by show Go.Proofs.YtgppjbhaimmlpaaGreatDoor.cnt z≤_;omega⟩
 ·rw[nB Q]at G⊢
  have F:=Ou G
  exact⟨(Lx _ _ _ _ h.own (fun v H=>by injection H with H;subst H;exact I) F).1,Lk F J h.lil,NX F O h.ids,by
   have:=Jr F;have e:GF (some z)=Go.Proofs.YtgppjbhaimmlpaaGreatDoor.cnt z:=rfl;have:=h.cnt;omega⟩
structure Fa (us gs:List Rg) (x y:Nd):Prop where
 kind:y.kind=x.kind
 kids:y.kids=x.kids
 opq:y.opq=x.opq
 own:y.ids us gs∨(x.ids us gs→y.ids us gs)
theorem Fa.ownN{us gs:List Rg}{x y:Nd}{t:AU}(h:Fa us gs x y)(G:x.kind≠3)(H:Ct us gs x t):Ct us gs y t:=by
 rw[GV]at H⊢;have F:=H.2 G;rw[h.kind,h.kids];refine⟨fun e=>absurd e G,fun _=>⟨?_,?_⟩⟩
 ·rcases h.own with e|e
  ·exact e
  ·exact e F.1
 ·unfold D1 at F⊢
  rw[h.opq];exact F.2
theorem Cs.alter{us gs:List Rg}{x0 y:Nd}{ni:List Nd}{nf:List BA}{n:Nat}(F:∀s∈nf,AQ s=true)(J:∀x∈ni,AB x)(h:Cs us gs ni n x0)(G:(Bo us gs x0 ni nf).1=0)(H:Fa us gs ((AV nf (Bo us gs x0 ni nf).2).getD zN) y)(O:AB y)(Q:AM y)(R:Go.Proofs.YtgppjbhaimmlpaaGreatDoor.cnt y≤n+nf.length)(T:(Cn y nf (Bo us gs x0 ni nf).2).1=0):Cs us gs ni (n+nf.length+(n+nf.length)) (Cn y nf (Bo us gs x0 ni nf).2).2:=by
 have V:=Lr F G;have hF:=h.up F J G;obtain⟨z,I,Y,_⟩:=Sj F V;rw[I]at H;exact hF.put (H.ownN Y (K5 _ _ _ _ hF.own I)) O Q R T
theorem LD{c:Option Nd}:∀{l:List BA} {m:BA} {x G:Nd},AG c (l++[m]) x=.ok G→∃d,AV l x=some d∧d.kind=2
 |[],m,x,G,h=>by
  rw[ru,Gf]at h;by_cases F:x.kind=2
  ·exact⟨x,by rw[AV],F⟩
  ·rw[nC F]at h;cases h
 |[n],m,x,G,h=>by
  have h:AG c [n,m] x=.ok G:=h;rw[Gg]at h;by_cases F:x.kind=2
  ·rw[nB (by simp[F])]at h
   cases hf:fk n x.kids with
   |none=>rw[hf]at h;cases h
   |some y=>
    rw[hf]at h;dsimp only at h;cases hy:AG c [m] y with
    |error f=>rw[hy]at h;cases h
    |ok z=>
     rw[CJ,nB (by simp[F]),hf];exact LD (l:=[]) hy
  ·rw[nC F]at h;cases h
 |n::H::l,m,x,G,h=>by
  have h:AG c (n::H::(l++[m])) x=.ok G:=h;rw[Gg]at h;by_cases F:x.kind=2
  ·rw[nB (by simp[F])]at h
   cases hf:fk n x.kids with
   |none=>rw[hf]at h;cases h
   |some y=>
    rw[hf]at h;dsimp only at h;cases hy:AG c (H::(l++[m])) y with
    |error f=>rw[hy]at h;cases h
    |ok z=>
     rw[CJ,nB (by simp[F]),hf];exact LD (l:=H::l) hy
  ·rw[nC F]at h;cases h
theorem Cs.remove{us gs:List Rg}{x0:Nd}{ni:List Nd}{nf:List BA}{n:Nat}(I:nf≠[])(Q:∀s∈nf,AQ s=true)(R:∀x∈ni,AB x)(h:Cs us gs ni n x0)(G:(Et us gs x0 ni nf).1=0):Cs us gs ni (n+nf.length+1) (Et us gs x0 ni nf).2:=by
 have T:∀s∈nf.dropLast,AQ s=true:=fun s V=>Q s (List.dropLast_subset _ V);unfold Et at G⊢
 by_cases H:(Bo us gs x0 ni nf.dropLast).1=0
 ·rw[nC H]at G⊢
  have hF:=h.up T R H;rw[r7]at hF;have hF:Cs us gs ni (n+nf.length) (Bo us gs x0 ni nf.dropLast).2:=⟨hF.own,hF.lil,hF.ids,by have:=hF.cnt;omega⟩;clear h H;generalize(Bo us gs x0 ni nf.dropLast).2=Y at*;obtain⟨l,m,rfl⟩:∃l m,nf=l++[m]:=⟨nf.dropLast,nf.getLast I,(List.dropLast_concat_getLast I).symm⟩;by_cases hb:DX (Y::ni) (l++[m])=true
  ·rw[nC hb]at G⊢
   unfold Cn at G⊢;rw[nB I]at G⊢;have F:=Ou G;obtain⟨d,J,O⟩:=LD F;refine⟨Sy (wh:=Ih) J O hF.own rfl (by rw[nC hb];exact F),Lk F (by simp[Ih,AB,Bt];decide) hF.lil,NX F (by simp[Ih,AM,Bu];exact⟨by decide,by decide⟩) hF.ids,?_⟩;have:=Jr F;have e:GF (some Ih)=1:=rfl;have:=hF.cnt;omega
  ·rw[nB hb]at G⊢
   have F:=Ou G;obtain⟨d,J,O⟩:=LD F;refine⟨Sy (wh:=Ih) J O hF.own rfl (by rw[nB hb];exact F),Ug F hF.lil,TL F hF.ids,?_⟩;have:=Jr F;have e:GF (none:Option Nd)=0:=rfl;have:=hF.cnt;omega
 ·rw[nB H]at G
  exact absurd G H
end Go.Proofs.YtgppjbhaimmlpaaGreatDoor
