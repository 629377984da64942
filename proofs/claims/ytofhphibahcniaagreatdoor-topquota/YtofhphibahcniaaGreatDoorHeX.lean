/-
  TopQuota: He Pa We Wf Wg Wh Hg Xp Va Vb Vc.
-/
import Derived.Test.YtofhphibahcniaaGreatDoorApX
import Derived.Test.YtofhphibahcniaaGreatDoorHaX
import Derived.Test.YtofhphibahcniaaGreatDoorFjX
import Derived.Test.YtofhphibahcniaaGreatDoorUmX
import Derived.Test.YtofhphibahcniaaGreatDoorMaX
import Derived.Test.YtofhphibahcniaaGreatDoorUbX
import Derived.Test.YtofhphibahcniaaGreatDoorWoX
import Derived.Deep.RegionHeld3
import Derived.Deep.RegionLaw
import Derived.Deep.Cut
import Derived.Test.YtofhphibahcniaaGreatDoorKcX
import Derived.Deep.LoopGhost
import Derived.Test.YtofhphibahcniaaGreatDoorUoX
import Derived.Test.YtofhphibahcniaaGreatDoorXjX
import Derived.Lib.AppendStr
set_option maxRecDepth 100000
set_option maxHeartbeats 16000000
namespace Go.Proofs.YtofhphibahcniaaGreatDoor
open Go.RowKit Go.Proofs.Tryz
theorem Yk{m:BA}(h:AY m=true):m.size≤12:=by
 unfold AY He at h;simp only[Bool.and_eq_true,r5]at h;have F:m.data.toList.length=m.size:=by simp
 omega
theorem Tq{m:BA}{z:Nd}(F:m.size≤255)(G:AB z):∀{ks:Ar},Bu ks→Bu (C0 m z ks)
 |[],_=>by rw[C0,Bu,Bu];exact⟨F,G,trivial⟩
 |(n,x)::l,ha=>by
  rw[C0];split
  ·rw[Bu];exact⟨F,G,ha⟩
  ·rw[Bu]at ha⊢;exact⟨ha.1,ha.2.1,Tq F G ha.2.2⟩
theorem Oi{x:Nd}{l:List BA}{n r:Nd}(h:AV (some x) l n=.ok r)(hx:AB x):AB n→AB r:=by
 refine JE (c:=some x) (fun n r=>AB n→AB r) ?_ ?_ h
 ·intro m n ks _ G F
  rw[←GD n,G3]at F;rw[G3];refine⟨F.1,?_⟩;rcases JW G with⟨Q,q,H,I⟩|⟨q,_⟩
  ·injection q with q
   subst q;have:=Yk H;rcases I with⟨_,rfl⟩|⟨_,rfl⟩
   ·exact Tq (by omega) hx F.2
   ·exact Ll hx F.2
  ·cases q
 ·intro m n y z _ J O F
  rw[←GD n,G3]at F;rw[G3];exact⟨F.1,Ll (O (LY F.2 J)) F.2⟩
theorem Vg{m:BA}{y:Nd}:∀{ks:Ar},BO ks→fk m ks=some y→AP y
 |[],_,h=>by cases h
 |(n,x)::l,ha,h=>by
  rw[BO]at ha;rw[fk]at h;split at h
  ·cases h;exact ha.1
  ·exact Vg ha.2 h
theorem Oy{m:BA}{z:Nd}(F:AP z):∀{ks:Ar},BO ks→BO (Cg m z ks)
 |[],_=>by rw[Cg,BO];trivial
 |(n,x)::l,ha=>by
  rw[BO]at ha;rw[Cg];split
  ·rw[BO];exact⟨F,ha.2⟩
  ·rw[BO];exact⟨ha.1,Oy F ha.2⟩
theorem TE{m:BA}{z:Nd}(F:AP z):∀{ks:Ar},BO ks→BO (C0 m z ks)
 |[],_=>by rw[C0,BO,BO];exact⟨F,trivial⟩
 |(n,x)::l,ha=>by
  rw[C0];split
  ·rw[BO];exact⟨F,ha⟩
  ·rw[BO]at ha⊢;exact⟨ha.1,TE F ha.2⟩
theorem LU{x:Nd}{ks:Ar}:AP (x.with ks)↔AP (x.with [])∧BO ks:=by
 obtain⟨k,m,u,g,o,nh,d,F⟩:=x;show AP (.mk k m u g o nh d ks)↔AP (.mk k m u g o nh d [])∧BO ks;rw[AP,AP,BO];exact⟨fun h=>⟨⟨h.1,h.2.1,trivial⟩,h.2.2⟩,fun h=>⟨h.1.1,h.1.2.1,h.2⟩⟩
theorem Ue{x:Nd}{l:List BA}{n r:Nd}(h:AV (some x) l n=.ok r)(hx:AP x):AP n→AP r:=by
 refine JE (c:=some x) (fun n r=>AP n→AP r) ?_ ?_ h
 ·intro m n ks _ G F
  rw[←GD n,LU]at F;rw[LU];refine⟨F.1,?_⟩;rcases JW G with⟨O,q,Q,H⟩|⟨q,_⟩
  ·injection q with q
   subst q;rcases H with⟨_,rfl⟩|⟨_,rfl⟩
   ·exact TE hx F.2
   ·exact Oy hx F.2
  ·cases q
 ·intro m n y z _ I J F
  rw[←GD n,LU]at F;rw[LU];exact⟨F.1,Oy (J (Vg F.2 I)) F.2⟩
theorem MB{L:List Rg}{x y:Int}(h:F6 L x=some y):A2 y:=by
 unfold F6 at h;by_cases F:CZ L=0
 ·rw[nD F]at h
  obtain⟨r,G,H,I,rfl⟩:=Ls h;have hb:=Ke F r G;unfold Rg.bd at hb;unfold A2;omega
 ·rw[nC F]at h;cases h
theorem eW{us gs:List Rg}{x y:Nd}(h:Bm true us gs (CP x)=some y)(F:AB x):AB y∧AP y:=by
 obtain⟨k,m,u,g,o,nh,d,ks⟩:=x;rw[CP,Bm]at h;simp only[if_true]at h;split at h
 ·rename_i u' g' e1 e2
  cases h;rw[AB]at F;rw[AB,Bu,AP,BO];exact⟨⟨F.1,F.2.1,trivial⟩,MB e1,MB e2,trivial⟩
 ·cases h
theorem Rr{xs:List Nd}(h:∀x∈xs,AB x):∀nf:List BA,∀q∈AI xs nf,AB q.1:=by
 intro nf;unfold AI;have F:∀q∈Bq (BJ xs),AB q.1:=fun q G=>h _ (Jw (H5 _ _ G));generalize Bq (BJ xs)=l at F
 induction nf generalizing l with
 |nil=>exact F
 |cons nm nf H=>
  rw[rK];refine H _ fun q G=>?_;obtain⟨p,I,e⟩:=Om (show q∈CK l nm from G)
  exact UO (F p I) e
theorem Vf{us gs:List Rg}{xs:List Nd}{nf:List BA}{U:Nd}(I:∀x∈xs,AB x)(J:AB U)(O:AP U):∀{k:Nat} {F:Nd},E5 us gs xs nf U k=.ok F→AB F∧AP F∧cnt F≤cnt U+k
 |0,F,h=>by cases h;exact⟨J,O,nn _⟩
 |k+1,F,h=>by
  rw[E5]at h;cases hk:E5 us gs xs nf U k with
  |error f=>rw[hk]at h;cases h
  |ok Y=>
   rw[hk]at h;obtain⟨G,H,Z⟩:=Vf I J O hk;dsimp only at h;cases hs:AI xs (nf.take (k+1))with
   |nil=>rw[hs]at h;cases h;exact⟨G,H,by omega⟩
   |cons q r=>
    rw[hs]at h;dsimp only at h;by_cases Q:q.2=0
    ·rw[nD Q]at h;cases h;exact⟨G,H,by omega⟩
    ·rw[nC Q]at h
     cases hm:Bm true us gs (CP q.1)with
     |none=>rw[hm]at h;cases h
     |some y=>
      rw[hm]at h;dsimp only at h;have R:AB q.1:=Rr I _ q (by rw[hs];exact nK ..);obtain⟨T,V⟩:=eW hm R;have c:=Kj h;have e:Hi (some y)=1:=(ex hm).trans (SQ _);exact⟨Oi h T G,Ue h V H,by omega⟩
theorem eT{us gs:List Rg}{xs:List Nd}{nf:List BA}{U F:Nd}(G:∀x∈xs,AB x)(H:AB U)(I:AP U)(h:EC us gs xs nf U=.ok F):AB F∧AP F∧cnt F≤cnt U+nf.length:=by
 unfold EC at h;split at h
 ·cases h
 ·exact Vf G H I h
theorem E8(w:World)(o:Obj):Below w.heap.size w (w.alloc o):=(nv _ _).alloc (nn _) _
theorem Tw{w w':World}{S:Nat→Bool}(hb:Below w.heap.size w w')(F:∀k,k<w.heap.size→S k=false):AR w.cell? (Ag w'.cell? S):=fun q v h=>by
 have G:=bL h;rw[Ck (F _ G)];exact Aj hb _ _ h
def H0(xs:List Nd):Bool:=decide (xs.length≤5)&&xs.all fun x=>decide (0<DF x 80)
theorem Pp{c:AH}{a:Option Addr}{xs:List Nd}(h:Cn c a xs){j:Nat}{x:Nd}(G:xs[j]? =some x):∃b F h,a=some (aD b F)∧Bi c b (F+j*8) x h∧Ah c x h:=by
 rcases h with e|⟨b,F,e,f,H⟩
 ·rw[e]at G;simp at G
 ·exact⟨b,F,f j,e,H j x G⟩
theorem XW{w:World}{a:Option Addr}{cap:Nat}{xs:List Nd}(hx:Cn w.cell? a xs)(ar:xs.length≤9223372036854775807):
 Calls prog 5 #[.slice a xs.length cap] w fun e w'=>e=.returned (.bool (H0 xs))∧Below w.heap.size w w':=by
 obtain⟨F,H⟩:=AQ (H0 xs);rw[H.out];have ay:=hid hx;by_cases az:5<xs.length
 ·have Q:Hid (F=false):=by show F=_;rw[←H.out];unfold H0;rw[nB (by omega)];rfl
  have hb:decide ((5:Int)<(xs.length:Int))=true:=nF (by omega);clear hx;go_enter func5,ntmps5;go_wp2;go_ret;exact⟨Bh Q.out.symm,nv _ _⟩
 have Z:Hid (F=xs.all fun x=>decide (0<DF x 80)):=by show F=_;rw[←H.out];unfold H0;rw[nF (by omega)];rfl
 have hb:=nB (by omega);obtain⟨N,R⟩:=AQ xs.length;rw[R.out]at hb az⊢;clear hx ar H;go_enter func5,ntmps5;go_wp2;go_loopw [3] (fun i wr=>∃j:Nat,j≤N∧i=iN j∧Hid (∀x∈xs.take j,0<DF x 80)∧Below w.heap.size w wr) (fun i _=>N-(intOf i).toNat)
 case atStart=>exact⟨0,nN _,rfl,fun x hx=>(by cases hx),nv _ _⟩
 case round=>
  obtain⟨j,bp,rfl,aa,G⟩:=hrel;by_cases a1:j<N
  ·have a6:decide ((j:Int)<(N:Int))=true:=nF (by omega)
   obtain⟨x,I⟩:∃x,xs[j]? =some x:=⟨_,nt (by rw[R.out];exact a1)⟩;obtain⟨bs,bu,h,rfl,ab,hd⟩:=Pp ay.out I;have a7:=hid (Hu I);have a8:=hid (nE I);have ba:=ab.below G;obtain⟨J,T⟩:=AQ (DF x 80);have V:=Yf (hd.on (Aj G));rw[T.out]at V;obtain⟨k,m,u,g,o,nh,d,ks⟩:=x;have ad:Hid (cL 16 #[(A5 k m u g o nh d ks h)] wr fun e bb=>e=.returned (.bool (decide (0<J)))∧Below wr.heap.size wr bb):=V;obtain⟨bd,be,bf,bg,bi,bk,f6,bl⟩:=ba;clear ab hd I V;go_wp2_with fail
   with_reducible refine np ad.out ?_
   rintro e bv ⟨rfl,ak⟩;have ao:=G.trans (ak.mono G.size);clear bd be bf bg bi bk f6 bl ad ak;by_cases Y:0<J
   ·have O:decide (0<J)=true:=nF Y
    have bn:Hid (∀x∈xs.take (j+1),0<DF x 80):=fun y ap=>by
     rw[a7.out]at ap;rcases rd.1 ap with e|e
     ·exact aa.out y e
     ·rw[rj]at e;rw[e,T.out];exact Y
    rw[O];go_wp2;go_roundw
    case rel=>exact⟨j+1,by omega,by go_num,bn.out,ao⟩
    case measure=>(simp[intOf];try omega)
   ·have O:decide (0<J)=false:=nB Y
    have Q:Hid (F=false):=by
     show F=_;rw[Z.out];refine List.all_eq_false.2 ⟨_,a8.out,?_⟩;rw[T.out,O];simp
    rw[O];go_wp2;go_ret;exact⟨Bh Q.out.symm,ao⟩
  ·have a6:decide ((j:Int)<(N:Int))=false:=nB (by omega)
   have bo:Hid (F=true):=by
    show F=_;rw[Z.out];refine List.all_eq_true.2 fun x hx=>nF (aa.out x ?_);rw[n1 (by rw[R.out];omega)]
    exact hx
   go_wp2;go_ret;exact⟨Bh bo.out.symm,G⟩
structure ER (w:World) (v:Value) (L:List Fl) (wr:World):Prop where
 low:Below w.heap.size w wr
 row:wr.ownsRow w.heap.size 54 8 v L.length (Bj L)
 nd:∀f∈L,Ah (Ag wr.cell? (fun k=>v.ownBlock==some k)) f.x f.h
theorem ER.below{w:World}{v:Value}{L:List Fl}{wr w':World}(h:ER w v L wr)(hb:Below wr.heap.size wr w'):ER w v L w':=⟨h.low.trans (hb.mono h.low.size),Fp h.row hb,fun f F=>(h.nd f F).on (CN hb)⟩
theorem ER.app{w:World}{v F:Value}{L:List Fl}{wr w':World}(h:ER w v L wr){f:Fl}(J:Ah (Ag wr.cell? (fun k=>v.ownBlock==some k)) f.x f.h)(O:w'.ownsRow w.heap.size 54 8 F (L++[f]).length (Bj (L++[f])))(H:wr.grownBy w' v.ownBlock)(Q:F.ownBlock=v.ownBlock∨F.ownBlock=some wr.heap.size):ER w F (L++[f]) w':=by
 have I:AR (Ag wr.cell? (fun k=>v.ownBlock==some k)) (Ag w'.cell? (fun k=>F.ownBlock==some k)):=BN fun k R G=>by
  simp at G;refine⟨?_,H.block k R (fun e=>G e.symm)⟩;simp;rcases Q with e|e
  ·rw[e];exact G
  ·rw[e];intro T;cases T;omega
 refine⟨h.low.grown H h.low.size (fun g e=>(h.row.lt g e).1),O,fun V Y=>?_⟩;rcases rd.1 Y with e|e
 ·exact(h.nd V e).on I
 ·rw[rj]at e;rw[e];exact J.on I
def GX:Nd→Int
 |.mk k m u g _ nh d _=>if k<1∨3<k then 3 else if m<0∨4095<m∨CV u=false∨CV g=false then 1 else if Dc nh≠0 then Dc nh else if 200<d.size then 1 else 0
def Ig(up F:Bool):Nd→Bool
 |.mk k m u g o nh d ks=>(((k==3&&((((!up||m !=0)||u !=0)||g !=0)||decide (0<nh.length)))||(k !=1&& !d.toList.isEmpty))||(k !=2&&(decide (0<ks.length)||o)))||(o&&(F|| !up))
theorem WH(d:BA):d.toList.isEmpty=decide (d.size=0):=by
 rw[r1,←Hz];cases d.data.toList<;>simp
theorem YS(up J:Bool)(x:Nd):DT up J x=if GX x≠0 then GX x else if Ig up J x=true then 3 else 0:=by
 obtain⟨k,m,u,g,o,nh,d,ks⟩:=x;rw[DT,GX];by_cases I:k<1∨3<k
 ·rw[nD I,nD I];rfl
 rw[nC I,nC I];by_cases F:m<0∨4095<m∨CV u=false∨CV g=false
 ·rw[nD F,nD F];rfl
 rw[nC F,nC F];by_cases G:Dc nh≠0
 ·rw[nD G,nD G,nD G]
 rw[nC G,nC G];by_cases H:200<d.size
 ·rw[nD H,Jc,nD H];rfl
 rw[nC H,nC (by simp)];have aa:0≤m:=by omega
 have ab:0≤u:=by
  by_cases e:CV u=false
  ·exact absurd (.inr (.inr (.inl e))) F
  ·simp[CV]at e;omega
 have ad:0≤g:=by
  by_cases e:CV g=false
  ·exact absurd (.inr (.inr (.inr e))) F
  ·simp[CV]at e;omega
 rw[Jc,nC H,Ig,WH];have O:(m !=0)=decide (0<m):=by rw[r2];simp;omega
 have Q:(u !=0)=decide (0<u):=by rw[r2];simp;omega
 have R:(g !=0)=decide (0<g):=by rw[r2];simp;omega
 have T:(!decide (d.size=0))=decide (0<d.size):=by rw[r2];simp only[Bool.not_eq_true',decide_eq_false_iff_not,r5];omega
 have V:(k==3)=decide (k=3):=by rw[r2];simp
 have Y:(k !=1)=decide (k≠1):=by rw[r2];simp
 have Z:(k !=2)=decide (k≠2):=by rw[r2];simp
 rw[O,Q,R,T,V,Y,Z];clear O Q R T V Y Z F G H;simp only[Bool.or_eq_true,Bool.and_eq_true,r5,Bool.not_eq_true'];cases up<;>cases J<;>cases o<;>simp only[reduceCtorEq,false_or,or_false,true_or,or_true,and_true,true_and,and_false,false_and,↓reduceIte,Bool.false_eq_true]
 all_goals
  repeat' split
  all_goals first
   |rfl
   |(exfalso;omega)
theorem Ng(x F:Int)(w:World):Calls prog 151 #[.int .i64 x,.int .i64 F] w fun e w'=>e=.returned (.bool (decide (x<0)||decide (F<x)))∧w=w':=by
 by_cases h:x<0
 ·have d:decide (x<0)=true:=nF h
  clear h;go_enter func151,ntmps151;go_wp2;go_ret;exact⟨Bh (by rw[d];rfl),rfl⟩
 ·have d:decide (x<0)=false:=nB h
  clear h;go_enter func151,ntmps151;go_wp2;go_ret;exact⟨Bh (by rw[d];rfl),rfl⟩
theorem Wz(k m u g:Int)(o:Bool)(nh:List Kv)(d:BA)(ks:Ar)(h:Hd)(up F:Bool)(W:World)(bd:1≤k∧k≤3):
 Calls prog 111 #[Al (.mk k m u g o nh d ks) h,.bool up,.bool F] W fun e az=>e=.returned (.bool (Ig up F (.mk k m u g o nh d ks)))∧Below W.heap.size W az:=by
 have G:=Ch.new W k m u g o nh d ks h;have be:Below W.heap.size W (W.alloc (As k m u g o nh d ks h)):=(nv _ _).alloc (nn _) _;obtain⟨Z,aa⟩:∃Z,Hid (Ig up F (.mk k m u g o nh d ks)=Z):=⟨_,rfl⟩;rw[aa.out];obtain⟨ak,a1⟩:∃t,(m !=0)=t:=⟨_,rfl⟩;obtain⟨ao,a6⟩:∃t,(u !=0)=t:=⟨_,rfl⟩;obtain⟨ap,a7⟩:∃t,(g !=0)=t:=⟨_,rfl⟩;obtain⟨ab,ar⟩:∃t,decide (0<nh.length)=t:=⟨_,rfl⟩;obtain⟨tk,ay⟩:∃t,decide (0<ks.length)=t:=⟨_,rfl⟩;obtain⟨ad,hd⟩:∃t,d.toList.isEmpty=t:=⟨_,rfl⟩;have H:Hid (Z=((((k==3&&((((!up||ak)||ao)||ap)||ab))||(k !=1&& !ad))||(k !=2&&(tk||o)))||(o&&(F|| !up)))):=by show _=_;rw[←aa.out,Ig,a1,a6,a7,ar,ay,hd]
 have bf:decide (0<(nh.length:Int))=ab:=by rw[←ar];congr 1;simp only[eq_iff_iff];omega
 have bg:decide (0<(ks.length:Int))=tk:=by rw[←ay];congr 1;simp only[eq_iff_iff];omega
 clear aa;show Calls prog 111 #[(A5 k m u g o nh d ks h),.bool up,.bool F] _ _;by_cases a8:k=3
 ·subst a8
  cases up
  ·cases tk<;>cases o<;>cases F
   all_goals
    obtain⟨I,J,O,Q,R,T,V,Y⟩:=G;go_enter func111,ntmps111;go_wp2;go_ret;exact⟨Bh H.out.symm,(nv _ _).alloc (nn _) _⟩
  ·cases ak
   ·cases ao
    ·cases ap
     ·cases ab
      ·cases ad<;>cases tk<;>cases o<;>cases F
       all_goals
        obtain⟨I,J,O,Q,R,T,V,Y⟩:=G;go_enter func111,ntmps111;go_wp2;go_ret;exact⟨Bh H.out.symm,(nv _ _).alloc (nn _) _⟩
      ·cases tk<;>cases o<;>cases F
       all_goals
        obtain⟨I,J,O,Q,R,T,V,Y⟩:=G;go_enter func111,ntmps111;go_wp2;go_ret;exact⟨Bh H.out.symm,(nv _ _).alloc (nn _) _⟩
     ·cases tk<;>cases o<;>cases F
      all_goals
       obtain⟨I,J,O,Q,R,T,V,Y⟩:=G;go_enter func111,ntmps111;go_wp2;go_ret;exact⟨Bh H.out.symm,(nv _ _).alloc (nn _) _⟩
    ·cases tk<;>cases o<;>cases F
     all_goals
      obtain⟨I,J,O,Q,R,T,V,Y⟩:=G;go_enter func111,ntmps111;go_wp2;go_ret;exact⟨Bh H.out.symm,(nv _ _).alloc (nn _) _⟩
   ·cases tk<;>cases o<;>cases F
    all_goals
     obtain⟨I,J,O,Q,R,T,V,Y⟩:=G;go_enter func111,ntmps111;go_wp2;go_ret;exact⟨Bh H.out.symm,(nv _ _).alloc (nn _) _⟩
 by_cases ba:k=2
 ·subst ba
  cases ad<;>cases o<;>cases F<;>cases up
  all_goals
   obtain⟨I,J,O,Q,R,T,V,Y⟩:=G;go_enter func111,ntmps111;go_wp2;go_ret;exact⟨Bh H.out.symm,(nv _ _).alloc (nn _) _⟩
 have bb:k=1:=by omega
 subst bb;cases tk<;>cases o<;>cases F<;>cases up
 all_goals
  obtain⟨I,J,O,Q,R,T,V,Y⟩:=G;go_enter func111,ntmps111;go_wp2;go_ret;exact⟨Bh H.out.symm,(nv _ _).alloc (nn _) _⟩
theorem RL(u:Int):(decide (u<0)||decide (65535<u))= !CV u:=by
 unfold CV;rw[r2];simp
theorem X2(k m u g:Int)(o:Bool)(nh:List Kv)(d:BA)(ks:Ar)(h:Hd)(W:World)(bu:nh.length≤1000)(bv:EP nh)(bx:Bp W.cell? h.aa nh):
 Calls prog 110 #[Al (.mk k m u g o nh d ks) h] W fun e bA=>e=.returned (Am (GX (.mk k m u g o nh d ks)))∧Below W.heap.size W bA:=by
 have J:Hid (GX (.mk k m u g o nh d ks)=if k<1∨3<k then 3 else if m<0∨4095<m∨CV u=false∨CV g=false then 1 else if Dc nh≠0 then Dc nh else if 200<d.size then 1 else 0):=rfl;obtain⟨G,Q⟩:=AQ (GX (.mk k m u g o nh d ks));rw[Q.out];rw[Q.out]at J;have R:=Ch.new W k m u g o nh d ks h;have H:Below W.heap.size W (W.alloc (As k m u g o nh d ks h)):=bN;have Y:=bx.below H;show cL 110 #[(A5 k m u g o nh d ks h)] _ _;by_cases T:k<1∨3<k
 ·have V:(k !=1)=true:=bne_iff_ne.2 (by omega)
  have Z:(k !=2)=true:=bne_iff_ne.2 (by omega);have bg:(k !=3)=true:=bne_iff_ne.2 (by omega);have F:Hid (G=3):=by show _=_;rw[J.out,nD T]
  clear T Y J Q;obtain⟨aa,ab,ad,ak,ao,ap,ar,ay⟩:=R;go_enter func110,ntmps110;go_wp2;go_ret;exact⟨Cp (AG F.out (by decide)).symm,H⟩
 have bi:Hid (G=if m<0∨4095<m∨CV u=false∨CV g=false then 1 else if Dc nh≠0 then Dc nh else if 200<d.size then 1 else 0):=by show _=_;rw[J.out,nC T]
 clear J Q;obtain⟨az,V⟩:∃t,(k !=1)=t:=⟨_,rfl⟩;obtain⟨bk,Z⟩:∃t,(k !=2)=t:=⟨_,rfl⟩;obtain⟨t3,bg⟩:∃t,(k !=3)=t:=⟨_,rfl⟩;have bB:(az=false)∨(az=true∧bk=false)∨(az=true∧bk=true∧t3=false):=by
  have:k=1∨k=2∨k=3:=by omega
  rcases this with rfl|rfl|rfl
  ·left;rw[←V];rfl
  ·right;left;rw[←V,←Z];exact⟨rfl,rfl⟩
  ·right;right;rw[←V,←Z,←bg];exact⟨rfl,rfl,rfl⟩
 clear T;obtain⟨bl,a1⟩:∃t,(decide (m<0)||decide (4095<m))=t:=⟨_,rfl⟩;have bC:=hid a1;obtain⟨a6,a7⟩:∃t,CV u=t:=⟨_,rfl⟩;obtain⟨a8,ba⟩:∃t,CV g=t:=⟨_,rfl⟩;have bF:Hid ((decide (u<0)||decide (65535<u))= !a6):=by show _=_;rw[RL,a7]
 have bG:Hid ((decide (g<0)||decide (65535<g))= !a8):=by show _=_;rw[RL,ba]
 have I:Hid (G=if bl=true∨a6=false∨a8=false then 1 else if Dc nh≠0 then Dc nh else if 200<d.size then 1 else 0):=by
  show _=_;rw[bi.out,a7,ba];congr 1;rw[←a1];simp only[Bool.or_eq_true,r5,or_assoc]
 clear bi a1 a7 ba;have bH:=QS nh;obtain⟨c,bb⟩:∃c,Dc nh=c:=⟨_,rfl⟩;have bn:=hid bb;rw[bb]at I bH;clear bb;have bY:∀(bo:Prop),bo→bo:=fun _ h=>h;clear bY
 rcases bB with bd|⟨bd,bp⟩|⟨bd,bp,b0⟩
 all_goals
  subst bd;try subst bp
  try subst b0
  have b1:=R;obtain⟨aa,ab,ad,ak,ao,ap,ar,ay⟩:=b1;go_enter func110,ntmps110;go_wp2_with fail
  refine(Ng m 4095 _).mono ?_;rintro e w' ⟨rfl,rfl⟩;rw[bC.out];cases bl;rotate_left
  ·have F:Hid (G=1):=by show _=_;rw[I.out,nD (.inl rfl)]
   go_wp2;go_ret;exact⟨Cp (AG F.out (by decide)).symm,H⟩
  go_wp2_with fail
  refine(Ng u 65535 _).mono ?_;rintro e w' ⟨rfl,rfl⟩;rw[bF.out];cases a6
  ·have F:Hid (G=1):=by show _=_;rw[I.out,nD (.inr (.inl rfl))]
   go_wp2;go_ret;exact⟨Cp (AG F.out (by decide)).symm,H⟩
  go_wp2_with fail
  refine(Ng g 65535 _).mono ?_;rintro e w' ⟨rfl,rfl⟩;rw[bG.out];cases a8
  ·have F:Hid (G=1):=by show _=_;rw[I.out,nD (.inr (.inr rfl))]
   go_wp2;go_ret;exact⟨Cp (AG F.out (by decide)).symm,H⟩
  have be:Hid (G=if c≠0 then c else if 200<d.size then 1 else 0):=by show _=_;rw[I.out,nC (by simp)]
  clear I;go_wp2_with fail
  refine(K5 h.aa h.ca nh _ bu bv Y).mono ?_;rintro e b5 ⟨rfl,c2⟩;rw[bn.out];have b2:=R.below c2;have bf:=H.trans (c2.mono H.size);clear aa ab ad ak ao ap ar ay R c2 H Y;obtain⟨aa,ab,ad,ak,ao,ap,ar,ay⟩:=b2;by_cases O:c=0;rotate_left
  ·rw[AG rfl O]
   have F:Hid (G=c):=by show _=_;rw[be.out,nD O]
   have b3:=hid O;clear O;go_wp2;go_ret;exact⟨Cp (AG F.out b3.out).symm,bf⟩
  subst O;rw[Co rfl];have bs:Hid (G=if 200<d.size then 1 else 0):=by show _=_;rw[be.out,nC (by simp)]
  clear be bn;by_cases hd:200<d.size
  ·have b4:decide (200<(d.size:Int))=true:=nF (by omega)
   have F:Hid (G=1):=by show _=_;rw[bs.out,nD hd]
   clear hd;go_wp2;go_ret;exact⟨Cp (AG F.out (by decide)).symm,bf⟩
  ·have b4:decide (200<(d.size:Int))=false:=nB (by omega)
   have F:Hid (G=0):=by show _=_;rw[bs.out,nC hd]
   clear hd;go_wp2;go_ret;exact⟨Cp (Co F.out).symm,bf⟩
def Ji(w:World)(b:Nat)(n:BA):Nd→Hd→Prop
 |.mk k m u g o nh d ks,h=>w.cell? ⟨b,0,none⟩=some (.string n)∧w.cell? ⟨b,1,none⟩=some (.int .i64 k)∧w.cell? ⟨b,2,none⟩=some (.int .i64 m)∧w.cell? ⟨b,3,none⟩=some (.int .i64 u)∧w.cell? ⟨b,4,none⟩=some (.int .i64 g)∧
  w.cell? ⟨b,5,none⟩=some (.bool o)∧w.cell? ⟨b,6,none⟩=some (.slice h.aa nh.length h.ca)∧w.cell? ⟨b,7,none⟩=some (.string d)∧w.cell? ⟨b,8,none⟩=some (.slice h.ak ks.length h.ck)
theorem Ji.new(w:World)(n:BA)(k m u g:Int)(o:Bool)(nh:List Kv)(d:BA)(ks:Ar)(h:Hd)(t:TypeId):
 Ji (w.alloc (.cells #[.string n,iN k,iN m,iN u,iN g,.bool o,.slice h.aa nh.length h.ca,.string d,.slice h.ak ks.length h.ck] t)) w.heap.size n (.mk k m u g o nh d ks) h:=
 ⟨aC,aC,aC,aC,aC,aC,aC,aC,aC⟩
def Tt(up:Bool)(w:World)(bc:Nat)(x:Nd)(h:Hd):Prop:=∀(W:World) (F G:Nat),Ao bc w W→Dl W bc (.bool up) (.int .i64 G)→F≤7→G≤60→
    Calls prog 63 #[.pointer (some ⟨bc,0,none⟩),Al x h,.int .i64 F] W fun e H=>e=.returned (Am (CT up x F G).1)∧Ao bc W H∧Dl H bc (.bool up) (.int .i64 (CT up x F G).2)
theorem YV(up:Bool){w:World}{bc:Nat}(cb:Option Addr)(cap b bn:Nat)(f:Nat→Hd)(ks:Ar)(cd:ks=[]∨cb=some (aD b bn))(d1:ks.length≤1000)(cf:∀(i:Nat) (n:BA) (x:Nd),ks[i]? =some (n,x)→n.size≤255)
 (cg:∀i n x,ks[i]? =some (n,x)→Dq (GP w.cell? bc) b (bn+i*9) n x (f i)) (bd:∀i n x,ks[i]? =some (n,x)→Tt up w bc x (f i)) (W:World) (G ao:Nat) (c6:Ao bc w W) (ch:Dl W bc (.bool up) (iN ao)) (c8:G≤7) (c9:ao≤60):
 Calls prog 112 #[pO bc 0,.slice cb ks.length cap,iN G] W fun e be=>e=.returned (Am (CQ up none ks G ao).1)∧Ao bc W be∧Dl be bc (.bool up) (iN (CQ up none ks G ao).2):=by
 obtain⟨O,b0⟩:=AQ (CQ up none ks G ao);rw[b0.out];have cl:=hid cg;have da:=hid bd;have db:=hid cf;have dd:=hid cd;clear cg bd cf cd;go_enter func112,ntmps112;go_wp2;go_loopw [12] (fun i wr=>∃(j s:Nat),j≤ks.length∧i=iN j∧s≤60∧Hid (O=CQ up (EY ks j) (ks.drop j) G s)∧Dl wr bc (.bool up) (iN s)∧Ao bc W wr) (fun i _=>ks.length-(intOf i).toNat)
 case atStart=>exact⟨0,ao,nN _,rfl,c9,b0.out.symm,ch,Ao.refl _ _⟩
 case round=>
  obtain⟨j,s,d2,rfl,co,b1,b2,bo⟩:=hrel;clear b0 ch;by_cases b3:j<ks.length;rotate_left
  ·have de:decide ((j:Int)<(ks.length:Int))=false:=nB (by omega)
   have cp:Hid (O=(0,s)):=by show _=_;rw[b1.out,n7 (by omega),CQ]
   go_wp2;go_ret;exact⟨Cp (Co (by rw[cp.out])).symm,bo,by rw[cp.out];exact b2⟩
  have de:(j:Int)<(ks.length:Int):=by omega
  obtain⟨⟨n,x⟩,hx⟩:∃x,ks[j]? =some x:=⟨ks[j],by simp[b3]⟩;have b4:Ao bc w wr:=c6.trans bo;have b5:Dq wr.cell? b (bn+j*9) n x (f j):=((cl.out j n x hx).on b4.mle).on (OE _ _);have ap:=hid (b1.out.trans (YQ hx));have b6:=hid (da.out j n x hx);have bp:=QQ up x G s co;have d3:n.size≤255:=db.out j n x hx;have d4:=hid hx;clear hx b1;rcases dd.out with dg|rfl
  ·rw[dg]at b3;simp at b3
  generalize f j=I at b5 b6;have bs:Hid (∀(W:World),Ao bc w W→Dl W bc (.bool up) (.int .i64 s)→Calls prog 63 #[.pointer (some ⟨bc,0,none⟩),Al x I,.int .i64 G] W fun e be=>e=.returned (Am (CT up x G s).1)∧Ao bc W be∧Dl be bc (.bool up) (.int .i64 (CT up x G s).2)):=fun W q1 q2=>b6.out W G s q1 q2 c8 co;clear b6
  obtain⟨dj,cr⟩:=AQ (CT up x G s);rw[cr.out]at ap bs bp;obtain⟨R,J⟩:=dj;dsimp only at ap bs bp;obtain⟨t,V⟩:∃t,AY n=t:=⟨_,rfl⟩;have cu:=hid V;rw[V]at ap;clear V cr;obtain⟨bu,bv,bx,bA,bB,bC,bF,bG⟩:=x;obtain⟨dk,dm,dn,dp,dr,ds,du,dw,dx⟩:=b5.nine;clear b5;have b7:=Ji.new wr n bu bv bx bA bB bC bF bG I 89;have bH:Below wr.heap.size wr (wr.alloc (.cells #[.string n,iN bu,iN bv,iN bx,iN bA,.bool bB,.slice I.aa bC.length I.ca,.string bF,.slice I.ak bG.length I.ck] 89)):=bN;go_wp2_with fail
  refine(Ge n _).mono ?_;rintro e w' ⟨rfl,rfl⟩;rw[cu.out];have Y:=b2.below bH;have ar:=b4.then bH;have Z:=bo.then bH
  have bY:Hid (∀i Q bf,ks[i]? =some (Q,bf)→Ce (wr.alloc (.cells #[.string n,iN bu,iN bv,iN bx,iN bA,.bool bB,.slice I.aa bC.length I.ca,.string bF,.slice I.ak bG.length I.ck] 89)) b (bn+i*9) (.string Q)):=
   fun i Q bf bg=>(((cl.out i Q bf bg).on ar.mle).on (OE _ _)).1
  clear dk dm dn dp dr ds du dw dx bH b2 b4 bo;generalize wr.alloc (.cells #[.string n,iN bu,iN bv,iN bx,iN bA,.bool bB,.slice I.aa bC.length I.ca,.string bF,.slice I.ak bG.length I.ck] 89)=F at b7 Y ar Z bY⊢;generalize wr.heap.size=d5 at b7⊢;obtain⟨cx,ay,az,a1,a6,a7,a8,ba,bb⟩:=b7;cases t
  ·have H:Hid (O=(4,s)):=by show _=_;rw[ap.out,nD rfl]
   go_wp2;go_ret;exact⟨Cp (AG (by rw[H.out]) (by decide)).symm,Z,by rw[H.out];exact Y⟩
  have aa:Hid (O=if Je (EY ks j) n=false then(3,s)else if R≠0 then(R,J)else CQ up (EY ks (j+1)) (ks.drop (j+1)) G J):=by show _=_;rw[ap.out,nC (by simp)]
  clear ap cu;by_cases c3:j=0
  ·subst c3
   have T:Hid (O=if R≠0 then(R,J)else CQ up (EY ks (0+1)) (ks.drop (0+1)) G J):=by show _=_;rw[aa.out,nC (by simp[EY,Je])]
   clear aa bY;go_wp2;go_quiet (fail)
   have ab:Dl (F.drewN nq) bc (.bool up) (.int .i64 s):=Y;have ad:Ao bc w (F.drewN nq):=ar.drewN nq;have ak:=Z.drewN nq;change(F.drewN nq).cell? _=_ at ay;change(F.drewN nq).cell? _=_ at az;change(F.drewN nq).cell? _=_ at a1;change(F.drewN nq).cell? _=_ at a6;change(F.drewN nq).cell? _=_ at a7;change(F.drewN nq).cell? _=_ at a8;change(F.drewN nq).cell? _=_ at ba;change(F.drewN nq).cell? _=_ at bb;clear Y ar Z cx;generalize F.drewN nq=dy at ab ad ak ay az a1 a6 a7 a8 ba bb⊢;go_wp2_with fail
   refine(bs.out _ ad ab).mono ?_;rintro e dz ⟨rfl,bi,bk⟩;have bl:=ak.trans bi;clear ay az a1 a6 a7 a8 ba bb bi ab ad ak;by_cases e:R=0
   ·rw[Co e]
    have H:Hid (O=CQ up (EY ks (0+1)) (ks.drop (0+1)) G J):=by show _=_;rw[T.out,nC (by simp[e])]
    clear e T;go_wp2;go_roundw
    case rel=>exact⟨0+1,J,by omega,by go_num,bp.2,H.out,bk,bl⟩
    case measure=>simp[intOf];omega
   ·rw[AG rfl e]
    have H:Hid (O=(R,J)):=by show _=_;rw[T.out,nD e]
    have b9:=hid e;clear e T;go_wp2;go_ret;exact⟨Cp (AG (by rw[H.out]) b9.out).symm,bl,by rw[H.out];exact bk⟩
  ·obtain⟨i,bd⟩:∃i,j=i+1:=⟨j-1,by omega⟩
   obtain⟨⟨Q,bf⟩,bg⟩:∃p,ks[i]? =some p:=⟨ks[i]'(by omega),nt _⟩;have d0:=bY.out i Q bf bg;have c4:Hid (EY ks j=some Q):=by show _=_;rw[bd];simp[EY,bg]
   rw[c4.out]at aa;have d6:decide (0<j)=true:=nF (by omega);have d7:IntKind.i64.wrap ((j:Int)-1)=(i:Int):=(EG (by omega) (by omega)).trans (by omega);have d8:(j:Int)-1=(i:Int):=by omega
   have dl:(i:Int)<(ks.length:Int):=by omega
   obtain⟨t,V⟩:∃t,AZ Q n=t:=⟨_,rfl⟩;have d9:(Op.bytesLess n.toList Q.toList||n.toList==Q.toList)= !t:=by rw[OS,V]
   have c5:Hid (Je (some Q) n=t):=V;rw[c5.out]at aa;have ea:0<j:=by omega
   clear bd bg V c4 c5 c3 bY;cases t
   ·have H:Hid (O=(3,s)):=by show _=_;rw[aa.out,nD rfl]
    go_wp2;go_quiet (fail)
    go_wp2;go_ret;exact⟨Cp (AG (by rw[H.out]) (by decide)).symm,Z.drewN _,by rw[H.out];exact Y⟩
   have T:Hid (O=if R≠0 then(R,J)else CQ up (EY ks (j+1)) (ks.drop (j+1)) G J):=by show _=_;rw[aa.out,nC (by simp)]
   clear aa;go_wp2;go_quiet (fail)
   clear d0;have ab:Dl (F.drewN nq) bc (.bool up) (iN s):=Y;have ad:Ao bc w (F.drewN nq):=ar.drewN nq;have ak:=Z.drewN nq;change(F.drewN nq).cell? _=_ at ay;change(F.drewN nq).cell? _=_ at az;change(F.drewN nq).cell? _=_ at a1;change(F.drewN nq).cell? _=_ at a6;change(F.drewN nq).cell? _=_ at a7;change(F.drewN nq).cell? _=_ at a8;change(F.drewN nq).cell? _=_ at ba;change(F.drewN nq).cell? _=_ at bb;clear Y ar Z cx;generalize F.drewN nq=dy at ab ad ak ay az a1 a6 a7 a8 ba bb⊢;go_wp2_with fail
   refine(bs.out _ ad ab).mono ?_;rintro e dz ⟨rfl,bi,bk⟩;have bl:=ak.trans bi;clear ay az a1 a6 a7 a8 ba bb bi ab ad ak;by_cases e:R=0
   ·rw[Co e]
    have H:Hid (O=CQ up (EY ks (j+1)) (ks.drop (j+1)) G J):=by show _=_;rw[T.out,nC (by simp[e])]
    clear e T;go_wp2;go_roundw
    case rel=>exact⟨j+1,J,by omega,by go_num,bp.2,H.out,bk,bl⟩
    case measure=>simp[intOf];omega
   ·rw[AG rfl e]
    have H:Hid (O=(R,J)):=by show _=_;rw[T.out,nD e]
    have b9:=hid e;clear e T;go_wp2;go_ret;exact⟨Cp (AG (by rw[H.out]) b9.out).symm,bl,by rw[H.out];exact bk⟩
def KE(w:World)(F bc:Nat)(up:Bool):Nd→Hd→Prop
 |.mk k m u g o nh d ks,h=>w.cell? ⟨F,0,none⟩=some (.int .i64 k)∧w.cell? ⟨F,1,none⟩=some (.int .i64 m)∧w.cell? ⟨F,2,none⟩=some (.int .i64 u)∧w.cell? ⟨F,3,none⟩=some (.int .i64 g)∧
  w.cell? ⟨F,4,none⟩=some (.bool o)∧w.cell? ⟨F,5,none⟩=some (.slice h.aa nh.length h.ca)∧w.cell? ⟨F,6,none⟩=some (.string d)∧w.cell? ⟨F,7,none⟩=some (.slice h.ak ks.length h.ck)∧w.cell? ⟨bc,0,none⟩=some (.bool up)
theorem KE.of{w:World}{F bc:Nat}{up:Bool}{s:Value}{x:Nd}{h:Hd}(G:Ch w F x h)(H:Dl w bc (.bool up) s):KE w F bc up x h:=by
 obtain⟨k,m,u,g,o,nh,d,ks⟩:=x;obtain⟨I,J,O,Q,R,T,V,Y⟩:=G;exact⟨I,J,O,Q,R,T,V,Y,H.1⟩
theorem ZL(up:Bool){w:World}{bc:Nat}(_hbc:bc<w.heap.size){x:Nd}{h:Hd}(cg:Ah (GP w.cell? bc) x h):AB x→cnt x≤1000→Tt up w bc x h:=by
 induction cg with
 |@mk k m u g o nh d ks h b ch f cl dz d0 bx bA co bB=>
  intro bC bF W G F bG Y d1 d2;rw[AB]at bC;rw[cnt]at bF;obtain⟨cp,cr,bk⟩:=bC;obtain⟨d3,cu⟩:=cp;have cx:ks.length≤1000:=by have:=Gc ks;omega
  have d4:=Y.lt;have a8:Hid (CT up (.mk k m u g o nh d ks) G F=if 60≤F∨6<G then(2,F)else if DT up (decide (G=0)) (.mk k m u g o nh d ks)≠0 then(DT up (decide (G=0)) (.mk k m u g o nh d ks),F+1)else CQ up none ks (G+1) (F+1)):=by show _=_;rw[CT]
  obtain⟨Z,bl⟩:=AQ (CT up (.mk k m u g o nh d ks) G F);rw[bl.out]at a8;rw[bl.out]
  have c3:Hid (∀(W:World) (G F:Nat),Ao bc w W→Dl W bc (.bool up) (iN F)→G≤7→F≤60→cL 112 #[pO bc 0,.slice h.ak ks.length h.ck,iN G] W fun e bH=>e=.returned (Am (CQ up none ks G F).1)∧Ao bc W bH∧Dl bH bc (.bool up) (iN (CQ up none ks G F).2)):=
   fun W G F q1 q2 c4 q4=>YV up h.ak h.ck b ch f ks bx cx (fun i n x aa=>(J9 bk aa).1) bA (fun i n x aa=>bB i n x aa (J9 bk aa).2 (by have:=Jv aa;omega)) W G F q1 q2 c4 q4
  clear bA co bB bx bk bF cr;show cL 63 #[pO bc 0,(A5 k m u g o nh d ks h),iN G] _ _;by_cases ab:60≤F∨6<G
  ·have H:Hid (Z=(2,F)):=by show _=_;rw[a8.out,nD ab]
   have c5:=hid ab;have Q:Ao bc W (W.alloc (As k m u g o nh d ks h)):=(Ao.refl _ _).alloc _;have R:=Y.below ((nv _ _).alloc (nn _) (As k m u g o nh d ks h));have c6:=R;obtain⟨t0,bY,b0,t3⟩:=c6;clear ab;by_cases b1:F=60
   ·subst b1
    go_enter func63,ntmps63;go_wp2;go_ret;exact⟨Cp (AG (by rw[H.out]) (by decide)).symm,Q,by rw[H.out];exact R⟩
   ·have c8:((F:Int)==60)=false:=by simp;omega
    have d5:decide (6<(G:Int))=true:=nF (by rcases c5.out with e|e<;>omega);clear b1;go_enter func63,ntmps63;go_wp2;go_ret;exact⟨Cp (AG (by rw[H.out]) (by decide)).symm,Q,by rw[H.out];exact R⟩
  have d6:F<60:=by omega
  have d7:G≤6:=by omega
  have c8:((F:Int)==60)=false:=by simp;omega
  have d8:=nB (by omega);obtain⟨I,c9⟩:∃I,((G:Int)==0)=I:=⟨_,rfl⟩;have b2:Hid (decide (G=0)=I):=by
   show _=_;rw[←c9];by_cases e:G=0
   ·subst e;rfl
   ·rw[nB e];symm;simpa using e
  have ba:Hid (Z=if DT up I (.mk k m u g o nh d ks)≠0 then(DT up I (.mk k m u g o nh d ks),F+1)else CQ up none ks (G+1) (F+1)):=by
   show _=_;rw[a8.out,nC ab,b2.out]
  have bb:Hid (DT up I (.mk k m u g o nh d ks)=if GX (.mk k m u g o nh d ks)≠0 then GX (.mk k m u g o nh d ks)else if Ig up I (.mk k m u g o nh d ks)=true then 3 else 0):=YS up I _;clear a8 ab bl b2;obtain⟨c,bd⟩:=AQ (GX (.mk k m u g o nh d ks));rw[bd.out]at bb;have b3:Hid (c=0→1≤k∧k≤3):=by
   intro e;have:=bd.out;rw[e,GX]at this;by_cases q:k<1∨3<k
   ·rw[nD q]at this;cases this
   ·omega
  have b4:=Y.set1 (iN ((F:Int)+1));have b5:Ao bc W (W.setCell (aD bc 1) (iN ((F:Int)+1))):=(Ao.refl _ _).setCell 1 none _;have be:=Ch.new (W.setCell (aD bc 1) (iN ((F:Int)+1))) k m u g o nh d ks h;rw[World.size_setCell]at be;have Q:Below (W.setCell (aD bc 1) (iN ((F:Int)+1))).heap.size (W.setCell (aD bc 1) (iN ((F:Int)+1))) ((W.setCell (aD bc 1) (iN ((F:Int)+1))).alloc (As k m u g o nh d ks h)):=bN;have R:=b4.below Q;have bn:=b5.then Q;have b6:=(cl.on (bG.trans bn).mle).on (OE _ _);have da:=Y.below ((nv _ _).alloc (nn _) (As k m u g o nh d ks h));obtain⟨db,dd,de,dg⟩:=Y;obtain⟨t0,bY,b0,t3⟩:=da;have dj:=be;obtain⟨ad,ak,ao,ap,ar,ay,az,a1⟩:=dj;clear b4 b5;go_enter func63,ntmps63;go_wp2_with fail
  refine(X2 k m u g o nh d ks h _ (by omega) cu b6).mono ?_;rintro e bf ⟨rfl,c2⟩;rw[bd.out];have a6:=be.below c2;have b7:=R.below c2;have bo:=bn.then c2;clear ad ak ao ap ar ay az a1 db dd de dg t0 bY b0 t3 be R bn c2 Q b6;generalize d9:W.heap.size=J at a6⊢;have a7:Dl bf bc (.bool up) (iN ((F+1:Nat):Int)):=by
   have e:((F+1:Nat):Int)=(F:Int)+1:=by omega
   rw[e];exact b7
  by_cases O:c=0;rotate_left
  ·have H:Hid (Z=(c,F+1)):=by show _=_;rw[ba.out,bb.out,nD O,nD O]
   have dk:=hid O;rw[AG rfl O];clear O;go_wp2;go_ret;exact⟨Cp (AG (by rw[H.out]) dk.out).symm,bo,by rw[H.out];exact a7⟩
  have dm:=b3.out O;subst O;rw[Co rfl];have bg:Hid (DT up I (.mk k m u g o nh d ks)=if Ig up I (.mk k m u g o nh d ks)=true then 3 else 0):=by show _=_;rw[bb.out,nC (by simp)]
  obtain⟨dn,bp⟩:∃t,Ig up I (.mk k m u g o nh d ks)=t:=⟨_,rfl⟩;have dp:=hid bp;rw[bp]at bg;clear bp bb bd b3 b7;have dr:=KE.of a6 a7;have T:Below bf.heap.size bf bf.drew:=rz (nv _ _) 1;have b9:=KE.of (a6.below T) (a7.below T);have bs:=a6.below T;have bu:=a7.below T;have cb:=bo.then T;obtain⟨ad,ak,ao,ap,ar,ay,az,a1,ds⟩:=dr;go_wp2;go_region_held3 (fun w'=>Ce w' J 0 (iN k)∧Ce w' J 1 (iN m)∧Ce w' J 2 (iN u)∧Ce w' J 3 (iN g)∧Ce w' J 4 (.bool o)∧Ce w' J 5 (.slice h.aa nh.length h.ca)∧Ce w' J 6 (.string d)∧Ce w' J 7 (.slice h.ak ks.length h.ck)∧Ce w' bc 0 (.bool up)) (first|exact b9|exact du) (first|(go_at_call 111;refine(Wz k m u g o nh d ks h up I _ dm).mono ?_;rintro e dw ⟨rfl,V⟩;have du:=KE.of (bs.below V) (bu.below V)))
  all_goals
   have dx:=bs.below V;have bv:=bu.below V;have bi:=cb.then V;have cd:Ao bc w dw:=bG.trans bi;rw[dp.out];clear ad ak ao ap ar ay az a1 ds V bs bu cb b9 a6 a7 bo T;cases dn
   ·have H:Hid (Z=CQ up none ks (G+1) (F+1)):=by show _=_;rw[ba.out,bg.out];rfl
    clear ba bg;obtain⟨ad,ak,ao,ap,ar,ay,az,a1⟩:=dx;go_wp2_with fail
    refine(c3.out _ (G+1) (F+1) cd bv (by omega) (by omega)).mono ?_;rintro e ea ⟨rfl,c7,cf⟩;have dy:=bi.trans c7;rw[←H.out]at cf⊢;clear ad ak ao ap ar ay az a1 c7 bi bv cd;go_wp2;go_ret;exact⟨rfl,dy,cf⟩
   ·have H:Hid (Z=(3,F+1)):=by show _=_;rw[ba.out,bg.out];rfl
    go_wp2;go_ret;exact⟨Cp (AG (by rw[H.out]) (by decide)).symm,bi,by rw[H.out];exact bv⟩
theorem KY(up:Bool){w:World}{x:Nd}{h:Hd}(Y:Ah w.cell? x h)(Z:AB x)(aa:cnt x≤1000):
 Calls prog 36 #[Al x h,.bool up] w fun e F=>e=.returned (Am (CC up x))∧Below w.heap.size w F:=by
 obtain⟨J,O⟩:=AQ (CC up x);rw[O.out];obtain⟨k,m,u,g,o,nh,d,ks⟩:=x;have Q:Hid (J=if k≠2 then 7 else(CT up (.mk k m u g o nh d ks) 0 0).1):=by show _=_;rw[←O.out,CC]
 have R:=Ch.new w k m u g o nh d ks h;have G:Below w.heap.size w (w.alloc (As k m u g o nh d ks h)):=bN;by_cases H:k=2;rotate_left
 ·have be:(k !=2)=true:=bne_iff_ne.2 H
  have T:Hid (J=7):=by show _=_;rw[Q.out,nD H]
  clear H;show cL 36 #[(A5 k m u g o nh d ks h),.bool up] _ _;obtain⟨ab,ad,ak,ao,ap,ar,ay,az⟩:=R;go_enter func36,ntmps36;go_wp2;go_ret;exact⟨Cp (AG T.out (by decide)).symm,G⟩
 subst H;have T:Hid (J=(CT up (.mk 2 m u g o nh d ks) 0 0).1):=by show _=_;rw[Q.out,nC (by decide)]
 clear Q O;have V:Below w.heap.size w ((w.alloc (.cells #[iN 2,iN m,iN u,iN g,.bool o,.slice h.aa nh.length h.ca,.string d,.slice h.ak ks.length h.ck] 54)).alloc (.cells #[.bool up,iN 0] 116)):=G.alloc G.size _;have I:=Dl.new (w.alloc (.cells #[iN 2,iN m,iN u,iN g,.bool o,.slice h.aa nh.length h.ca,.string d,.slice h.ak ks.length h.ck] 54)) (.bool up) (iN 0) 116;rw[nw]at I;have a1:=R.below ((nv _ _).alloc (nn _) (.cells #[.bool up,iN 0] 116))
 have a6:Hid (∀F,Ao (w.heap.size+1) ((w.alloc (.cells #[iN 2,iN m,iN u,iN g,.bool o,.slice h.aa nh.length h.ca,.string d,.slice h.ak ks.length h.ck] 54)).alloc (.cells #[.bool up,iN 0] 116)) F→Dl F (w.heap.size+1) (.bool up) (iN 0)→cL 63 #[pO (w.heap.size+1) 0,Al (.mk 2 m u g o nh d ks) h,iN 0] F fun e W2=>e=.returned (Am (CT up (.mk 2 m u g o nh d ks) 0 0).1)∧Ao (w.heap.size+1) F W2∧Dl W2 (w.heap.size+1) (.bool up) (iN (CT up (.mk 2 m u g o nh d ks) 0 0).2)):=
  fun F q1 q2=>ZL up (w:=((w.alloc (.cells #[iN 2,iN m,iN u,iN g,.bool o,.slice h.aa nh.length h.ca,.string d,.slice h.ak ks.length h.ck] 54)).alloc (.cells #[.bool up,iN 0] 116))) (bc:=w.heap.size+1) I.lt (Y.on (cE V (by omega))) Z aa F 0 0 q1 q2 (by omega) (by omega)
 clear Y Z aa;show cL 36 #[.agg #[iN 2,iN m,iN u,iN g,.bool o,.slice h.aa nh.length h.ca,.string d,.slice h.ak ks.length h.ck],.bool up] _ _;obtain⟨ab,ad,ak,ao,ap,ar,ay,az⟩:=R;obtain⟨z0,a7,a8,z3,z4,z5,ba,bb⟩:=a1;go_enter func36,ntmps36;go_wp2_with fail
 refine(a6.out _ (Ao.refl _ _) I).mono ?_;rintro e bf ⟨rfl,c2,_⟩;have bd:=V.trans (c2.below (B:=w.heap.size) (by omega) (by simp;omega));clear ab ad ak ao ap ar ay az z0 a7 a8 z3 z4 z5 ba bb c2 V I G;rw[←T.out];go_wp2;go_ret;exact⟨rfl,bd⟩
theorem Vo{c:AH}{b:Nat}:∀(H:List Nd) (F:Nat) (f:Nat→Hd),(∀i x,H[i]? =some x→Bi c b (F+i*8) x (f i)∧Ah c x (f i))→
 ∃L:List Fl,L.map Fl.x=H∧(∀j u,(Bj L)[j]? =some u→c (aD b (F+j))=some u)∧∀z∈L,Ah c z.x z.h
 |[],F,f,_=>⟨[],rfl,fun j u h=>by simp[Bj]at h,fun z I=>by cases I⟩
 |x::H,F,f,h=>by
  obtain⟨L,J,O,Q⟩:=Vo H (F+8) (fun i=>f (i+1)) fun i y R=>by
   have:=h (i+1) y (by simpa using R);rw[show F+(i+1)*8=F+8+i*8 by omega]at this;exact this
  obtain⟨g1,T⟩:=h 0 x rfl;refine⟨⟨x,f 0,0⟩::L,by rw[rh,J],fun j u G=>?_,fun z I=>?_⟩
  ·rw[Bj]at G
   by_cases V:j<8
   ·rw[rH (by simp[D1];omega)]at G
    have:=Ec.1 g1 j u G;rwa [r3,rT]at this
   ·rw[ro (by simp[D1];omega),D1]at G
    have:=O (j-8) u G;rwa [show F+8+(j-8)=F+j by omega]at this
  ·rcases nY.1 I with e|e
   ·rw[e];exact T
   ·exact Q z e
theorem TW:∀(A:List Fl),∀u∈Bj A,u.oneCell'=true
 |[],u,h=>by simp[Bj]at h
 |f::r,u,hu=>by
  rw[Bj]at hu;rcases rd.1 hu with e|e
  ·exact Kh _ _ u e
  ·exact TW r u e
theorem dA{xs:List Nd}(h:H0 xs=true):xs.length≤5∧∀x∈xs,AB x∧cnt x≤80:=by
 unfold H0 at h;rw[Bool.and_eq_true]at h;refine⟨rI h.1,fun x hx=>?_⟩;have F:=rI (List.all_eq_true.1 h.2 x hx);have G:=Rc x 80 F;exact⟨G.1,by omega⟩
structure Fm (n:Nat) (x0:Nd) (ni:List Nd):Prop where
 lil:AB x0
 ids:AP x0
 cnt:cnt x0≤n
 low:∀x∈ni,AB x∧AP x∧Go.Proofs.YtofhphibahcniaaGreatDoor.cnt x≤100
 len:ni.length≤4
theorem et{l:BM}(h:∀q∈l,cnt q.1≤100):tot l≤100*l.length:=by
 induction l with
 |nil=>exact nN _
 |cons q r F=>
  have H:=h q (nK ..);have I:=F fun p G=>h p (n2 _ G);rw[tot,n3]
  omega
theorem Fm.ok{n:Nat}{x0:Nd}{ni:List Nd}(h:Fm n x0 ni)(J:n≤400):Ft (x0::ni)where
 lil:=fun x hx=>by
  rcases nY.1 hx with rfl|hx
  ·exact h.lil
  ·exact(h.low x hx).1
 tot:=by
  have e:BJ (x0::ni)=(x0,0)::ni.zipIdx 1:=rfl;rw[e,tot]
  have G:=et (l:=ni.zipIdx 1) fun q H=>(h.low q.1 (by
   obtain⟨i,F⟩:=n5 H;rw[List.getElem?_zipIdx]at F;obtain⟨y,I,rfl⟩:=n0.1 F;exact nE I)).2.2
  rw[List.length_zipIdx]at G;have:=h.cnt;have:=h.len;show Go.Proofs.YtofhphibahcniaaGreatDoor.cnt x0+_≤1000;omega
 ids:=fun x hx=>by
  rcases nY.1 hx with rfl|hx
  ·exact h.ids
  ·exact(h.low x hx).2.1
def Gy(F:Except Int Nd)(x0:Nd):Int×Nd:=(EK F,if EK F=0 then DV F else x0)
def Cj(us gs:List Rg)(x0:Nd)(ni:List Nd)(nf:List BA):Int×Nd:=Gy (EC us gs (x0::ni) nf x0) x0
def Cf(n:Nd)(nf:List BA)(x0:Nd):Int×Nd:=if nf=[]then(0,n)else Gy (AV (some n) nf x0) x0
def KH:Nd:=.mk 3 0 0 0 false [] ⟨#[]⟩ []
def DN(us gs:List Rg)(x0:Nd)(ni:List Nd)(nf:List BA):Int×Nd:=
 if(Cj us gs x0 ni nf.dropLast).1=0 then(if Fi ((Cj us gs x0 ni nf.dropLast).2::ni) nf=true then Cf KH nf (Cj us gs x0 ni nf.dropLast).2 else Gy (AV none nf (Cj us gs x0 ni nf.dropLast).2) (Cj us gs x0 ni nf.dropLast).2)else Cj us gs x0 ni nf.dropLast
theorem Nb(w:World)(an:Option Addr)(nj:Nat)(nf:List BA)(G:nf≠[])(H:nf.length≤nj∧nj≤9223372036854775807):
 Calls prog 95 #[.slice an nf.length nj] w fun e w'=>e=.returned (.slice an nf.dropLast.length nj)∧Bw w w':=by
 obtain⟨n,F⟩:∃n,nf.length=n+1:=⟨nf.length-1,by have:=ri.2 G;omega⟩;rw[r7,F];rw[F]at H;clear F G;go_enter func95,ntmps95;go_wp2;go_ret;exact⟨rfl,nv _ _⟩
theorem Kf{I w:World}{F G lc:Nat}{M:CO}{x0:Nd}{ni:List Nd}(h:Bd I w F G lc M x0 ni){n:Nat}(Y:Fm n x0 ni)(a7:n≤400){an:Option Addr}{nj:Nat}{nf:List BA}(ao:AW I.cell? an nf)(a8:nf.length≤500)(ba:nf.length≤nj∧nj≤9223372036854775807):
 Calls prog 94 #[.pointer (some ⟨F,0,none⟩),.slice an nf.length nj] w fun e w'=>e=.returned (Am (Cj M.us M.gs x0 ni nf).1)∧Bd I w' F G lc M (Cj M.us M.gs x0 ni nf).2 ni∧Ao G w w':=by
 have hd:=h.below ((nv w.heap.size w).drew);obtain⟨H,ad⟩:∃H,Hid (EC M.us M.gs (x0::ni) nf x0=H):=⟨_,rfl⟩;have Z:Hid (Calls prog 144 #[.slice (some ⟨G,0,none⟩) (ni.length+1) lc,M.v,.slice an nf.length nj] w.drew fun e ak=>(∃h',e=.returned (.tuple #[Al (DV H) h',Am (EK H)])∧Ah ak.cell? (DV H) h')∧Bw w.drew ak):=by
  have aa:=Y.ok a7;have e:=eO (W:=w.drew) (S:=fun _=>false) (a:=some ⟨G,0,none⟩) (cap:=lc) (an:=an) (nj:=nj) (nf:=nf) (xs:=x0::ni) (M:=M) (U:=x0) (fun _ bb=>by cases bb) (by rw[Dg];exact hd.lay) (by rw[Dg];exact ao.on (Aj hd.base)) aa.len a8 ba aa.small aa.lim (fun q bd=>aa.ids _ (Jw bd)) hd.mapsW (fun x hx=>by cases hx;rfl) (by have:=Y.cnt;omega) (Vw _ Y.lil);rw[ad.out]at e;refine np e ?_;rintro e ak ⟨⟨h',be,ap⟩,bf⟩;rw[Dg]at ap;exact⟨⟨h',be,ap⟩,bf⟩
 show Calls prog 94 #[.pointer (some ⟨F,0,none⟩),.slice an nf.length nj] w fun e w'=>e=.returned (Am (Gy (EC M.us M.gs (x0::ni) nf x0) x0).1)∧Bd I w' F G lc M (Gy (EC M.us M.gs (x0::ni) nf x0) x0).2 ni∧Ao G w w';rw[ad.out]
 have bg:Hid _:=hd;obtain⟨J,O,uc,gc,us,gs⟩:=M;have bi:w.drew.cell? ⟨F,0,none⟩=some (.slice J us.length uc)∧w.drew.cell? ⟨F,1,none⟩=some (.slice O gs.length gc)∧w.drew.cell? ⟨F,2,none⟩=some (.slice (some ⟨G,0,none⟩) (ni.length+1) lc):=⟨hd.c0,hd.c1,hd.c2⟩;have bk:Hid (Ao G w w.drew):=Ao.of_below ((nv w.heap.size w).drew);clear h hd Y ao;unfold CO.v at Z;dsimp only at Z;unfold Gy;dsimp only;generalize DV H=ar at*;generalize EK H=E at*;clear ad;obtain⟨ab,ay⟩:∃ab,Hid ((if E=0 then ar else x0)=ab):=⟨_,rfl⟩;rw[ay.out];go_enter func94,ntmps94;go_upto_region 1 with fail
 go_region_held3 (fun w'=>w'.cell? ⟨F,0,none⟩=some (.slice J us.length uc)∧w'.cell? ⟨F,1,none⟩=some (.slice O gs.length gc)∧w'.cell? ⟨F,2,none⟩=some (.slice (some ⟨G,0,none⟩) (ni.length+1) lc)) (first|with_reducible exact bi|with_reducible exact bl|with_reducible exact bn) (first|(go_at_call 144;(with_reducible refine np Z.out ?_);rintro e Q ⟨⟨bo,rfl,az⟩,q6⟩;have R:=bg.out.below q6;have bl:Q.cell? ⟨F,0,none⟩=some (.slice J us.length uc)∧Q.cell? ⟨F,1,none⟩=some (.slice O gs.length gc)∧Q.cell? ⟨F,2,none⟩=some (.slice (some ⟨G,0,none⟩) (ni.length+1) lc):=⟨R.c0,R.c1,R.c2⟩;have a1:Hid (Calls prog 139 #[.pointer (some ⟨F,0,none⟩),Al ar bo,Am E] Q fun e w'=>e=.returned (Am E)∧Bd I w' F G lc ⟨J,O,uc,gc,us,gs⟩ ab ni∧Ao G Q w'):=(by have e:=Lx R az E;rw[ay.out]at e;exact e);have bp:Hid (Ao G w Q):=bk.out.then q6;clear Z az q6 R)|(go_at_call 139;(with_reducible refine np a1.out ?_);rintro e T ⟨rfl,V,a6⟩;have bn:T.cell? ⟨F,0,none⟩=some (.slice J us.length uc)∧T.cell? ⟨F,1,none⟩=some (.slice O gs.length gc)∧T.cell? ⟨F,2,none⟩=some (.slice (some ⟨G,0,none⟩) (ni.length+1) lc):=⟨V.c0,V.c1,V.c2⟩;have bs:Hid (Bd I T F G lc ⟨J,O,uc,gc,us,gs⟩ ab ni):=V;have bu:Hid (Ao G w T):=bp.out.trans a6;clear a1 V a6))
 all_goals
  go_wp2;go_ret;exact⟨rfl,bs.out,bu.out⟩
def b8(z:Int):UInt8:=UInt8.ofNat (z%256).toNat
theorem FL(z:Int):((b8 z).toNat:Int)=z%256:=by
 unfold b8;have F:0≤z%256:=Int.emod_nonneg _ (by decide);have G:z%256<256:=Int.emod_lt_of_pos _ (by decide);rw[UInt8.toNat_ofNat'];omega
def bc(l:List UInt8):List Value:=l.map fun b=>.int .u8 b.toNat
theorem Ld(a b:List UInt8):bc (a++b)=bc a++bc b:=by simp[bc]
theorem G8(a:List UInt8):∀u∈bc a,u.oneCell'=true:=by
 intro u F;unfold bc at F;obtain⟨b,_,rfl⟩:=rx.1 F;rfl
def Bg(s:BA):List UInt8:=b8 s.size::s.data.toList
theorem FI(s:BA):(Bg s).length=1+s.size:=by simp[Bg];omega
def BW(z:Int):List UInt8:=[b8 (z / 256),b8 z]
def CD:List Kv→List UInt8
 |[]=>[]
 |r::l=>Bg r.n++(Bg r.v++CD l)
mutual
def BK:Nd→List UInt8
 |.mk k m u g o nh d ks=>b8 (if o=true then k+8 else k)::(BW m++(BW u++(BW g++(b8 nh.length::(CD nh++(Bg d++(b8 ks.length::BQ ks)))))))
def BQ:Ar→List UInt8
 |[]=>[]
 |p::l=>Bg p.1++(BK p.2++BQ l)
end
structure Gr (w w':World) (v v':Value):Prop where
 g:w.grownBy w' v.ownBlock
 o:v'.ownBlock=v.ownBlock∨∃s,v'.ownBlock=some s∧w.heap.size≤s
theorem Gr.trans{w F G:World}{v H I:Value}(h:Gr w F v H)(k:Gr F G H I):Gr w G v I:=by
 obtain⟨⟨T,a2,a3,a4,a5⟩,J⟩:=h;obtain⟨⟨V,Y,Z,aa,ab⟩,ad⟩:=k;refine⟨⟨V.trans T,Y.trans a2,Z.trans a3,nP a4 aa,fun q O Q=>?_⟩,?_⟩
 ·refine(ab q (nH O a4) ?_).trans (a5 q O Q)
  rcases J with e|⟨s,e,R⟩
  ·rw[e];exact Q
  ·rw[e];intro ak
   have:q=s:=by simpa using ak
   omega
 ·rcases ad with e|⟨s,e,R⟩
  ·rw[e];exact J
  ·exact .inr ⟨s,e,nP a4 R⟩
theorem Wq{P:Program}(w:World)(base:Nat)(t u G e:TypeId)(i:TypeInfo)(H:P.underlying t=some (.slice e))(I:P.underlying u=some .string)(J:P.info? e=some i)(T:i.zero=some (.int .u8 0))(O:i.size=1)(V:i.bytes=1)
 (v:Value) (n:Nat) (xs:List Value) (Q:w.ownsRow base e 1 v n xs) (az:0<n) (s:BA) (a1:n+s.size≤100000000) (Z:base≤w.heap.size):
 ∃F w',(Builtin.append_ #[t,u] G #[v,.string s]).run P w=.ok F w'∧w'.ownsRow base e 1 F (n+s.size) (xs++bc s.data.toList)∧Gr w w' v F:=by
 obtain⟨F,w',R,aa,ab,_⟩:=Lib.run_append_own_string (P:=P) w base t u G e i H I J T O V v n xs Q s (by unfold maxLen;omega) (by omega) Z;refine⟨F,w',R,aa,ab,?_⟩;obtain⟨a,cap,rfl,a6,a7,ad⟩:=KN Q;rcases ad with⟨_,a8,_⟩|⟨g,ak,rfl,hb,Y,ao,hx⟩
 ·omega
 ·by_cases ap:n+s.size≤cap
  ·have q:=Lib.run_append_room_string (P:=P) w t u G e i H I J O g n cap ak Y s ap (by rw[ao];omega)
   rw[R]at q;obtain⟨rfl,_⟩:F=sL g 0 (n+s.size) cap∧w'=_:=by simpa using q
   exact .inl rfl
  ·have ar:xs.length=n*1:=Q.1
   have q:=Lib.run_append_grow_string (P:=P) w t u G e i (.int .u8 0) H I J T (aD g 0) n cap xs (by rw[O];exact ar) (fun j u ay=>by rw[D2,nU];exact F7 Y hx ay) s (by omega) (by omega) (by rw[V];exact growslice_fits (by omega) (by omega));rw[R]at q;obtain⟨rfl,_⟩:F=sL w.heap.size 0 (n+s.size) (grownCap w (n+s.size) cap e)∧w'=_:=by simpa using q
   exact .inr ⟨w.heap.size,rfl,nn _⟩
theorem Wo{P:Program}(w:World){G:Array Oper}{ni:List Oper}{o:Oper}{a:Act}{H:Exit→Act→World→Prop}(J:o.guard=none)(I x:Operand)(t u:TypeId)
 (O:o.op=.call {callee:=.builtin .append,args:=#[I,x],argTypes:=#[t,u]})
 (base:Nat) (e:TypeId) (i:TypeInfo) (Q:P.underlying t=some (.slice e)) (R:P.underlying u=some .string) (T:P.info? e=some i) (V:i.zero=some (.int .u8 0)) (Y:i.size=1) (Z:i.bytes=1)
 (v:Value) (n:Nat) (xs:List Value) (aa:a.eval I=v) (ab:w.ownsRow base e 1 v n xs) (ad:0<n) (s:BA) (hx:a.eval x=.string s) (ak:n+s.size≤100000000) (ao:base≤w.heap.size)
 (h:∀F w',w'.ownsRow base e 1 F (n+s.size) (xs++bc s.data.toList)→Gr w w' v F→wpList P G H ni (a.put o.dst F) w'):wpList P G H (o::ni) a w:=by
 refine wpList_plain J fun K ap=>?_;obtain⟨F,w',ar,ay,az⟩:=Wq (P:=P) w base t u o.type e i Q R T V Y Z v n xs ab ad s ak ao
 unfold Oper.wp execOp;simp only[O,resolve,invoke,builtin,Sem.run_bind,Sem.run_pure,Result.andThen_ok,List.map_toArray,rh,List.map_nil,aa,hx,ar];exact ap _ _ (h F w' ay az)
theorem Tryz.infoB:(prog.info? 5).map (fun i=>(i.zero,i.size,i.bytes))=some (some (.int .u8 0),1,1):=by kernel_rfl
theorem Lv(w:World)(z:Int)(t:TypeId):∀j u,(bc [b8 z])[j]? =some u→(w.alloc (.cells #[.int .u8 (IntKind.u8.wrap z)] t)).cell? (((aD w.heap.size 0):Addr).add j)=some u:=by
 intro j u F;rw[D2,nU];refine aC.trans ?_;cases j with
 |zero=>
  simp[bc]at F;subst F;simp[IntKind.wrap_u8,FL]
 |succ j=>simp[bc]at F
theorem IZ{w w':World}{o:Obj}{v F:Value}(H:(w.alloc o).grownBy w' v.ownBlock)(I:F.ownBlock=v.ownBlock∨F.ownBlock=some (w.heap.size+1)):Gr w w' v F:=by
 refine⟨?_,?_⟩
 ·obtain⟨J,a2,a3,a4,a5⟩:=H
  have b:=(nv _ w).alloc (nn _) o;exact⟨J.trans b.os,a2.trans b.tape,a3.trans b.output,nP b.size a4,fun q G O=>(a5 q (nH G b.size) O).trans (b.block q G)⟩
 ·rcases I with e|e
  ·exact .inl e
  ·exact .inr ⟨_,e,by omega⟩
theorem Gr.size{w w':World}{v F:Value}(h:Gr w w' v F):w.heap.size≤w'.heap.size:=h.g.size
theorem KQ{base:Nat}(s:BA)(W:World)(v:Value)(n:Nat)(xs:List Value)(H:W.ownsRow base 5 1 v n xs)(ab:base≤W.heap.size)(az:n+s.size≤90000000):
 Calls prog 68 #[v,.string s] W fun e w'=>∃F,e=.returned F∧w'.ownsRow base 5 1 F (n+(1+s.size)) (xs++bc (Bg s))∧Gr W w' v F:=by
 obtain⟨I,J,O,Q,R⟩:=DC Tryz.infoB;have T:=hid H;clear H;go_enter func68,ntmps68;go_wp2_with (at_builtin;refine DZ (W.alloc (.cells #[.int .u8 (IntKind.u8.wrap s.size)] 5)) rfl (.tmp 5) (.tmp 9) 71 rfl base 5 I (.int .u8 0) 1 1 underlying71 J O Q R rfl (by decide) v n xs rfl (T.out.alloc _) (some (aD W.heap.size 0)) 1 1 (bc [b8 s.size]) rfl rfl (.inr ⟨_,rfl,Lv _ _ _⟩) (G8 _) (by unfold maxLen;omega) (by omega) (by rw[nw];omega) ?_)
 intro V Y ad Z aa;have G:Gr W Y v V:=IZ Z aa;have ak:=nP ab G.size;have ao:=hid G;clear Z aa G T;go_wp2_with (at_builtin;refine Wo Y rfl (.tmp 11) (.tmp 12) 71 9 rfl base 5 I underlying71 underlying9 J O Q R V (n+1) (xs++bc [b8 s.size]) rfl ad (by omega) s rfl (by omega) ak ?_)
 intro ap a1 ar ay;go_wp2;go_ret;refine⟨ap,rfl,?_,ao.out.trans ay⟩;rw[show n+(1+s.size)=n+1+s.size by omega,show bc (Bg s)=bc [b8 s.size]++bc s.data.toList from by rw[←Ld];rfl];exact ar
mutual
def Jg:Nd→Prop
 |.mk k m u g _ nh d ks=>(0≤k∧k≤100)∧(0≤m∧m≤65535)∧(0≤u∧u≤65535)∧(0≤g∧g≤65535)∧(nh.length≤1000∧∀r∈nh,r.n.size≤1000∧r.v.size≤1000)∧d.size≤1000∧ks.length≤1000∧Ij ks
def Ij:Ar→Prop
 |[]=>True
 |p::l=>p.1.size≤1000∧Jg p.2∧Ij l
end
theorem Sz:∀{ks:Ar} {i:Nat} {n:BA} {x:Nd},Ij ks→ks[i]? =some (n,x)→n.size≤1000∧Jg x
 |[],i,n,x,_,h=>by simp at h
 |p::l,0,n,x,h,e=>by
  rw[Ij]at h;simp at e;subst e;exact⟨h.1,h.2.1⟩
 |p::l,i+1,n,x,h,e=>by
  rw[Ij]at h;exact Sz h.2.2 (by simpa using e)
structure LS (w0 W wr:World) (v vr:Value) (n:Nat) (xs:List Value) (sb:Nat) (x:Nd) (h:Hd) (pre:List UInt8):Prop where
 row:wr.ownsRow w0.heap.size 5 1 vr (n+pre.length) (xs++bc pre)
 gr:Gr W wr v vr
 box:Ch wr sb x h
 ne:some sb≠vr.ownBlock
 low:Below w0.heap.size w0 wr
theorem Ch.gr{w w':World}{v G:Value}{F:Nat}{x:Nd}{h:Hd}(hb:Ch w F x h)(H:Gr w w' v G)(I:some F≠v.ownBlock):Ch w' F x h:=by
 have J:=hb.lt;obtain⟨k,m,u,g,o,nh,d,ks⟩:=x;have q:∀j,w'.cell? (aD F j)=w.cell? (aD F j):=fun j=>nS (w:=w) (H.g.block F J I);obtain⟨O,Q,R,T,V,Y,Z,aa⟩:=hb
 exact⟨(q 0).trans O,(q 1).trans Q,(q 2).trans R,(q 3).trans T,(q 4).trans V,(q 5).trans Y,(q 6).trans Z,(q 7).trans aa⟩
theorem O8{w w':World}{v G:Value}{F:Nat}(H:Gr w w' v G)(J:F<w.heap.size)(I:some F≠v.ownBlock):some F≠G.ownBlock:=by
 rcases H.o with e|⟨s,e,O⟩
 ·rw[e];exact I
 ·rw[e];intro q
  have:F=s:=by simpa using q
  omega
theorem LS.app{I W wr w':World}{v Q J:Value}{n:Nat}{xs:List Value}{R:Nat}{x:Nd}{h:Hd}{G:List UInt8}(F:LS I W wr v Q n xs R x h G)(H:Gr wr w' Q J)(O:List UInt8){q:Nat}(T:w'.ownsRow I.heap.size 5 1 J q (xs++(bc G++bc O)))(V:q=n+G.length+O.length):LS I W w' v J n xs R x h (G++O):=by
 refine⟨?_,F.gr.trans H,F.box.gr H F.ne,O8 H F.box.lt F.ne,?_⟩
 ·rw[nM,Ld,←Nat.add_assoc,←V];exact T
 ·exact F.low.grown H.g F.low.size (fun q e=>(F.row.lt q e).1)
theorem LS.alloc{G W wr:World}{v H:Value}{n:Nat}{xs:List Value}{I:Nat}{x:Nd}{h:Hd}{J:List UInt8}(F:LS G W wr v H n xs I x h J)(o:Obj):LS G W (wr.alloc o) v H n xs I x h J:=by
 have b:Below wr.heap.size wr (wr.alloc o):=(nv _ _).alloc (nn _) o;exact⟨F.row.alloc _,F.gr.trans ⟨⟨b.os,b.tape,b.output,b.size,fun q O _=>b.block q O⟩,.inl rfl⟩,F.box.below b,F.ne,F.low.trans (b.mono F.low.size)⟩
theorem LS.drew{G W wr:World}{v H:Value}{n:Nat}{xs:List Value}{I:Nat}{x:Nd}{h:Hd}{J:List UInt8}(F:LS G W wr v H n xs I x h J):LS G W wr.drew v H n xs I x h J:=by
 have b:Below wr.heap.size wr wr.drew:=rz (nv _ wr) 1;exact⟨F.row.drew,F.gr.trans ⟨⟨b.os,b.tape,b.output,b.size,fun q O _=>b.block q O⟩,.inl rfl⟩,F.box.below b,F.ne,F.low.trans (b.mono F.low.size)⟩
theorem LS.start{F W:World}{v:Value}{n:Nat}{xs:List Value}(G:Below F.heap.size F W)(H:W.ownsRow F.heap.size 5 1 v n xs)(k m u g:Int)(o:Bool)(nh:List Kv)(d:BA)(ks:Ar)(h:Hd):
 LS F W (W.alloc (.cells #[iN k,iN m,iN u,iN g,.bool o,.slice h.aa nh.length h.ca,.string d,.slice h.ak ks.length h.ck] 54)) v v n xs W.heap.size (.mk k m u g o nh d ks) h []:=by
 have b:Below W.heap.size W (W.alloc (As k m u g o nh d ks h)):=bN;refine⟨?_,⟨⟨b.os,b.tape,b.output,b.size,fun q I _=>b.block q I⟩,.inl rfl⟩,Ch.new W k m u g o nh d ks h,?_,G.trans (b.mono G.size)⟩
 ·have:=H.alloc (As k m u g o nh d ks h)
  rw[show bc []=[]from rfl,rQ];exact this
 ·intro e
  have:=(H.lt _ e.symm).2;omega
theorem Y0(w:World)(z:Int)(t:TypeId)(F:0≤z∧z≤255):∀j u,(bc [b8 z])[j]? =some u→(w.alloc (.cells #[.int .u8 z] t)).cell? (((aD w.heap.size 0):Addr).add j)=some u:=by
 have e:IntKind.u8.wrap z=z:=by rw[IntKind.wrap_u8];omega
 have:=Lv w z t;rwa [e]at this
theorem Pu(x y z:Value)(w:World):(Instr.index 124 (.agg #[x,y,z]) (.int .i64 0)).run prog w=.ok x w∧(Instr.index 124 (.agg #[x,y,z]) (.int .i64 1)).run prog w=.ok y w∧(Instr.index 124 (.agg #[x,y,z]) (.int .i64 2)).run prog w=.ok z w:=⟨by kernel_rfl,by kernel_rfl,by kernel_rfl⟩
def Gv:List Int→List UInt8
 |[]=>[]
 |z::l=>BW z++Gv l
theorem M9(w:World)(z:Int)(t:TypeId)(G:0≤z∧z≤65535):∀j u,(bc (BW z))[j]? =some u→(w.alloc (.cells #[.int .u8 (z / 256),.int .u8 (z%256)] t)).cell? (((aD w.heap.size 0):Addr).add j)=some u:=by
 intro j u F;rw[D2,nU];refine aC.trans ?_;have e:z / 256%256=z / 256:=by omega
 match j with
 |0=>simp[bc,BW]at F;subst F;simp[FL,e]
 |1=>simp[bc,BW]at F;subst F;simp[FL]
 |j+2=>simp[bc,BW]at F
theorem KP(z:Int):(BW z).length=2:=rfl
theorem aS{l:List Kv}{j:Nat}{r:Kv}(h:l[j]? =some r):CD (l.drop j)=Bg r.n++(Bg r.v++CD (l.drop (j+1))):=by
 obtain⟨F,G⟩:=ny.1 h;rw[nO F,G,CD]
theorem Zy{l:Ar}{j:Nat}{m:BA}{x:Nd}(h:l[j]? =some (m,x)):BQ (l.drop j)=Bg m++(BK x++BQ (l.drop (j+1))):=by
 obtain⟨F,G⟩:=ny.1 h;rw[nO F,G,BQ]
end Go.Proofs.YtofhphibahcniaaGreatDoor
