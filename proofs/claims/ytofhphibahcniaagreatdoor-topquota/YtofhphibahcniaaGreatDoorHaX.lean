/-
  TopQuota: Ha Hb Fe Fb Qa Ff Fg Fh Shs.
-/
import Derived.Test.YtofhphibahcniaaGreatDoorApX
import Derived.Test.YtofhphibahcniaaGreatDoorWoX
import Derived.Test.YtofhphibahcniaaGreatDoorUbX
import Derived.Test.YtofhphibahcniaaGreatDoorKcX
import Derived.Below
import Derived.Maps.OwnSet
import Derived.Lib.SliceRun
import Derived.Deep.Upon
import Derived.Deep.LoopGhost
import Derived.Maps.OwnOps
import Derived.Deep.RegionHeld3
import Derived.BigQuiet
import Derived.Shelf.SlSortCmp.WholeK
import Derived.Shelf.SlSortCmp.NoneTotal
import Derived.Test.YtofhphibahcniaaGreatDoorProg
set_option maxRecDepth 100000
set_option maxHeartbeats 16000000
namespace Go.Proofs.YtofhphibahcniaaGreatDoor
open Go.RowKit Go.Proofs.Tryz
theorem Ls{F G:Rg→Int}{x y:Int}:∀{L:List Rg},CY F G L x=some y→∃r∈L,F r≤x∧x-F r<r.n∧y=G r+x-F r
 |[],h=>by cases h
 |r::l,h=>by
  by_cases e:F r≤x∧x-F r<r.n
  ·rw[NI e.1 e.2]at h;cases h;exact⟨r,by simp,e.1,e.2,rfl⟩
  ·rw[JY e]at h
   obtain⟨q,H,I⟩:=Ls h;exact⟨q,by simp[H],I⟩
theorem P5(nm:BA)(q:Nd×Nat)(l:BM):Bz nm (q::l)=(match Dr nm q.1 with|none=>Bz nm l|some y=>(y,q.2)::Bz nm l):=by
 unfold Bz;rw[rt];cases Dr nm q.1<;>rfl
theorem SC{x:Nd}(h:x.kind=2)(nm:BA):Dr nm x=fk nm x.kids:=by rw[LV,nC (by simp[h])]
def O6(us gs:List Rg):List BA→BM→BA→List (Nd×BA)→Prop
 |[],s0,nm,L=>∃q r y,Bq s0=q::r∧Bm true us gs (CP q.1)=some y∧L=[(y,nm)]
 |n::ns,s0,nm,L=>∃q r y F,Bq s0=q::r∧Bm true us gs (CP q.1)=some y∧O6 us gs ns (Bz n (q::r)) n F∧L=(y,nm)::F
def JO(x:Nd)(t:BM):BM:=if x.opq=true then []else Ey t
def Py(us gs:List Rg)(F:List BA)(L:List (Nd×BA)):List BA→Nd→BM→Prop
 |[],_,_=>False
 |[m],x,t=>x.kind=2∧fk m x.kids=none∧O6 us gs F (Bz m (JO x t)) m L
 |m::G::N,x,t=>x.kind=2∧∃y,fk m x.kids=some y∧(y.kind=1∨y.kind=2)∧Py us gs F L (G::N) y (Bz m (JO x t))
theorem Oq{x:Nd}(h:x.kind=2)(t:BM):Bq ((x,0)::t)=(x,0)::JO x t:=by
 rw[Bq,nC (by simp only[h];decide),Ey,nC (by simp[h])];unfold JO;split<;>rfl
def VV(x:Nd):Prop:=∃up F,Fn up F x
theorem SM{up:Bool}{F:Nat}{m:BA}{y:Nd}:∀{p:Option BA} {ks:Ar},Gs up F p ks→fk m ks=some y→AY m=true∧Fn up F y
 |_,[],_,h=>by cases h
 |p,(n,x)::l,hv,h=>by
  rw[Gs]at hv;rw[fk]at h;split at h
  ·rename_i e
   cases h;rw[←e];exact⟨hv.1,hv.2.2.1⟩
  ·exact SM hv.2.2.2 h
theorem VV.kid{x y:Nd}{m:BA}(h:VV x)(F:fk m x.kids=some y):AY m=true∧VV y:=by
 obtain⟨up,G,H⟩:=h;obtain⟨I,J⟩:=SM (ZX H) F;exact⟨I,up,G+1,J⟩
theorem dE{l:BM}(h:∀q∈l,VV q.1)(nm:BA):∀q∈Bz nm l,AY nm=true∧VV q.1:=fun q G=>by
 obtain⟨p,H,e⟩:=rC.1 G;obtain⟨z,F,rfl⟩:=n0.1 e;rw[LV]at F;split at F
 ·cases F
 ·exact(h p H).kid F
theorem aA{xs:List Nd}(h:∀x∈xs,VV x):∀nf:List BA,∀q∈AI xs nf,VV q.1:=by
 intro nf;unfold AI;have F:∀q∈Bq (BJ xs),VV q.1:=fun q G=>by
  have:=(Mk _).subset G;obtain⟨i,H⟩:=n5 this;unfold BJ at H;rw[List.getElem?_zipIdx]at H;obtain⟨y,I,rfl⟩:=n0.1 H;exact h y (nE I)
 generalize Bq (BJ xs)=l at F;induction nf generalizing l with
 |nil=>exact F
 |cons nm nf J=>
  rw[rK];exact J _ fun q G=>(dE F nm q ((Mk _).subset G)).2
theorem Uh{us gs:List Rg}:∀{A L:List (Nd×BA)},Cb us gs A=.ok L→(∀p∈A,∃y,Bm true us gs p.1=some y)∧L=A.map fun p=>((Bm true us gs p.1).getD zN,p.2)
 |[],L,h=>by
  rw[Cb]at h;injection h with h
  subst h;exact⟨fun p F=>(by cases F),rfl⟩
 |(x,m)::r,L,h=>by
  rw[Cb]at h;cases hm:Bm true us gs x with
  |none=>rw[hm]at h;cases h
  |some y=>
   rw[hm]at h;dsimp only at h;split at h
   ·cases h
   cases hr:Cb us gs r with
   |error f=>rw[hr]at h;cases h
   |ok I=>
    rw[hr]at h;dsimp only at h;injection h with h
    subst h;obtain⟨G,H⟩:=Uh hr;refine⟨fun p F=>?_,?_⟩
    ·rcases nY.1 F with rfl|F
     ·exact⟨y,hm⟩
     ·exact G p F
    ·rw[rh,hm,←H];rfl
theorem Tl{us gs:List Rg}{f:Int}:∀{A:List (Nd×BA)},(∀p∈A,AY p.2=true)→Cb us gs A=.error f→f=11
 |[],_,h=>by rw[Cb]at h;cases h
 |(x,m)::r,hn,h=>by
  rw[Cb]at h;cases hm:Bm true us gs x with
  |none=>rw[hm]at h;injection h with h;exact h.symm
  |some y=>
   rw[hm]at h;dsimp only at h;rw[nC (by rw[hn (x,m) (nK ..)];decide)]at h;cases hr:Cb us gs r with
   |error G=>
    rw[hr]at h;injection h with h
    subst h;exact Tl (fun p F=>hn p (n2 _ F)) hr
   |ok H=>rw[hr]at h;cases h
def Jj(us gs:List Rg)(F:Nat→Nd×Nat)(nf:List BA)(j d:Nat):List (Nd×BA):=(List.range' j d).map fun i=>((Bm true us gs (CP (F i).1)).getD zN,nf.getD (i-1) ⟨#[]⟩)
theorem QM{us gs:List Rg}{xs:List Nd}{nf:List BA}{F:Nat→Nd×Nat}(J:FT xs nf F):∀(d j:Nat) (H:BM),1≤j→j+d=nf.length→Bq H=AI xs (nf.take j)→(∀i,j≤i→i≤nf.length→∃y,Bm true us gs (CP (F i).1)=some y)→
 O6 us gs (nf.drop j) H (nf.getD (j-1) ⟨#[]⟩) (Jj us gs F nf j (d+1))
 |0,j,H,hj1,hj,he,hm=>by
  rw[List.drop_eq_nil_of_le (by omega)];obtain⟨r,I⟩:=J j (by omega);obtain⟨y,G⟩:=hm j (nn _) (by omega);refine⟨F j,r,y,he.trans I,G,?_⟩;simp[Jj,G]
 |d+1,j,H,hj1,hj,he,hm=>by
  have O:j<nf.length:=by omega
  have e:=nt O;rw[nO O];obtain⟨r,I⟩:=J j (by omega);obtain⟨y,G⟩:=hm j (nn _) (by omega);have Q:=QM (us:=us) (gs:=gs) J d (j+1) (Bz nf[j] (F j::r)) (by omega) (by omega) (by rw[Jm e,I]) (fun i T R=>hm i (by omega) R);rw[show j+1-1=j by omega,show nf.getD j ⟨#[]⟩=nf[j] by simp[O]]at Q;refine⟨F j,r,y,Jj us gs F nf (j+1) (d+1),he.trans I,G,Q,?_⟩;unfold Jj;rw[show List.range' j (d+1+1)=j::List.range' (j+1) (d+1)from rfl,rh,G];rfl
theorem Z2{us gs:List Rg}{xs:List Nd}{nf:List BA}{F:Nat→Nd×Nat}(H:FT xs nf F){k:Nat}(O:k<nf.length)(Q:∀j,j≤k→(F j).2=0)(ad:(F (k+1)).2≠0)(ak:∀i,k+1≤i→i≤nf.length→∃y,Bm true us gs (CP (F i).1)=some y):
 ∀(d i:Nat) (t:BM),i+d=k→Bq ((((F i).1,0)::t):BM)=AI xs (nf.take i)→Py us gs (nf.drop (k+1)) (Jj us gs F nf (k+1) (nf.length-k)) ((nf.take (k+1)).drop i) (F i).1 t:=by
 intro d;induction d with
 |zero=>
  intro i t ao R;have ap:i=k:=by omega
  subst ap;have e:=nt O;obtain⟨G,_,I,_⟩:=Hw H e;have T:(nf.take (i+1)).drop i=[nf[i]]:=by
   rw[List.drop_take,show i+1-i=1 by omega,nO O];rfl
  rw[T];have I:=I (Q i (nn _)) ad;refine⟨G,I,?_⟩
  have V:=QM (us:=us) (gs:=gs) H (nf.length-i-1) (i+1) (Bz nf[i] (JO (F i).1 t)) (by omega) (by omega) (by
   rw[Jm e,←R,Oq G,P5,SC G,I]) ak
  rw[show i+1-1=i by omega,show nf.getD i ⟨#[]⟩=nf[i] by simp[O],show nf.length-i-1+1=nf.length-i by omega]at V;exact V
 |succ d ar=>
  intro i t ao R;have ay:i<nf.length:=by omega
  have e:=nt ay;obtain⟨G,_,_,J⟩:=Hw H e;have J:=J (Q i (by omega)) (Q (i+1) (by omega));have Y:Bq ((((F (i+1)).1,0)::Bz nf[i] (JO (F i).1 t)):BM)=AI xs (nf.take (i+1)):=by
   rw[Jm e,←R,Oq G,P5,SC G,J]
  have Z:=ar (i+1) _ (by omega) Y;have T:(nf.take (k+1)).drop i=nf[i]::(nf.take (k+1)).drop (i+1):=by
   rw[nO (by rw[rF];omega)];simp
  have aa:(nf.take (k+1)).drop (i+1)=nf[i+1]'(by omega)::(nf.take (k+1)).drop (i+1+1):=by
   rw[nO (by rw[rF];omega)];simp
  rw[T,aa];rw[aa]at Z;refine⟨G,(F (i+1)).1,J,?_,Z⟩;obtain⟨r,ab⟩:=H (i+1) (by omega);rw[←Y]at ab;rcases(Ln ab).2 with q|q
  ·exact .inr q
  ·exact .inl q.1
theorem Wu{xs:List Nd}{nf:List BA}(h:AI xs nf≠[]):∃G,FT xs nf G:=by
 have H:∀i,i≤nf.length→AI xs (nf.take i)≠[]:=fun i F e=>by
  apply h;have:AI xs nf=(nf.drop i).foldl (fun l nm=>Bq (Bz nm l)) (AI xs (nf.take i)):=by
   unfold AI;rw[←List.foldl_append,ry]
  rw[this,e];exact aP _
 refine⟨fun i=>(AI xs (nf.take i)).headD (zN,0),fun i F=>?_⟩;cases hc:AI xs (nf.take i)with
 |nil=>exact absurd hc (H i F)
 |cons q r=>exact⟨r,by simp[hc]⟩
theorem YO{us gs:List Rg}{x0:Nd}{ni:List Nd}{nf:List BA}(Y:∀F,FT (x0::ni) nf F→∀(i:Nat) (Z:i<nf.length),AY nf[i]=true):
 (∀H,EC us gs (x0::ni) nf x0=.ok H→(H=x0∧∃z r,AI (H::ni) nf=(z,0)::r∧BU nf H=some z)∨∃N aa L,nf=N++aa∧Py us gs aa L N x0 (ni.zipIdx 1)∧AV (some (Ct L)) N x0=.ok H)∧
 (∀f,EC us gs (x0::ni) nf x0=.error f→f=5∨f=11):=by
 unfold EC;by_cases R:AI (x0::ni) nf=[]
 ·rw[nD R]
  exact⟨fun H h=>(by cases h),fun f h=>(by injection h with h;exact .inl h.symm)⟩
 rw[nC R];obtain⟨F,G⟩:=Wu R;have ab:=QT G;have I:(F 0).1=x0:=by
  have:=ab.2;simp at this;exact this.symm
 by_cases J:∀j,j≤nf.length→(F j).2=0
 ·have e:=LQ (us:=us) (gs:=gs) (U:=x0) G nf.length (nn _) J
  rw[e];refine⟨fun H h=>?_,fun f h=>(by cases h)⟩;injection h with h
  subst h;refine .inl ⟨rfl,?_⟩;obtain⟨r,ad⟩:=G nf.length (nn _);rw[List.take_length]at ad;have ak:=Lh G nf.length (nn _) J;rw[List.take_length,I]at ak;exact⟨(F nf.length).1,r,by rw[ad,←J nf.length (nn _)],ak⟩
 ·obtain⟨k,Q,T,ao⟩:∃k,k<nf.length∧(∀j,j≤k→(F j).2=0)∧(F (k+1)).2≠0:=by
   have:∃n,n≤nf.length∧(F n).2≠0:=by
    by_cases e:∃n,n≤nf.length∧(F n).2≠0
    ·exact e
    ·exfalso
     exact J fun j O=>by
      by_cases q:(F j).2=0
      ·exact q
      ·exact absurd ⟨j,O,q⟩ e
   obtain⟨n,bn,ap⟩:=this;clear J;induction n with
   |zero=>exact absurd ab.1 ap
   |succ n a7=>
    by_cases q:∀j,j≤n→(F j).2=0
    ·exact⟨n,by omega,q,ap⟩
    ·by_cases q2:(F n).2=0
     ·have:∃j,j≤n∧(F j).2≠0:=by
       by_cases e:∃j,j≤n∧(F j).2≠0
       ·exact e
       ·exfalso
        exact q fun j O=>by
         by_cases ar:(F j).2=0
         ·exact ar
         ·exact absurd ⟨j,O,ar⟩ e
      obtain⟨j,O,a8⟩:=this;have up:∀i,j≤i→i≤n→(F i).2≠0:=by
       intro i ay;induction ay with
       |refl=>exact fun _=>a8
       |@step m ay ba=>
        intro bo;have e:nf[m]? =some (nf[m]'(by omega)):=nt (by omega);exact(Hw G e).2.1 (ba (by omega))
      exact absurd q2 (up n O (nn _))
     ·exact a7 (by omega) q2
  have e:=VA (us:=us) (gs:=gs) G Q T ao (nf.length-k-1) (by omega);rw[show k+(nf.length-k-1)+1=nf.length by omega,show nf.length-k-1+1=nf.length-k by omega,I]at e;rw[e];have bb:∀p∈D9 F nf k (nf.length-k),AY p.2=true:=fun p bd=>by
   obtain⟨i,Z,rfl⟩:=rx.1 bd;rw[List.mem_range'_1]at Z;have az:=Y F G (i-1) (by omega);show AY (nf.getD (i-1) ⟨#[]⟩)=true;rw[show nf.getD (i-1) ⟨#[]⟩=nf[i-1] by rw[List.getD_eq_getElem?_getD,nt (by omega)];rfl];exact az
  cases hb:Cb us gs (D9 F nf k (nf.length-k))with
  |error f=>
   refine⟨fun H h=>(by cases h),fun bp h=>?_⟩;injection h with h
   subst h;exact .inr (Tl bb hb)
  |ok L=>
   dsimp only;obtain⟨be,bf⟩:=Uh hb;have bg:L=Jj us gs F nf (k+1) (nf.length-k):=by
    rw[bf];unfold D9 Jj;rw[r4];rfl
   have bi:∀i,k+1≤i→i≤nf.length→∃y,Bm true us gs (CP (F i).1)=some y:=fun i az bs=>
    be (CP (F i).1,nf.getD (i-1) ⟨#[]⟩) (rx.2 ⟨i,by rw[List.mem_range'_1];omega,rfl⟩)
   have a1:=Z2 (us:=us) (gs:=gs) G Q T ao bi k 0 (ni.zipIdx 1) (by omega) (by rw[I];rfl);rw[List.drop_zero,I,←bg]at a1;have a6:=nt Q;have bk:=Lh G k (by omega) T;have bl:=(Hw G a6).1;obtain⟨bu,V⟩:=(Lw (x:=Ct L) bk bl).2 (by rw[Y F G k Q];decide);rw[←Hu a6,I]at V;rw[V];refine⟨fun H h=>?_,fun f h=>(by cases h)⟩;injection h with h
   subst h;exact .inr ⟨_,_,L,(ry _ _).symm,a1,V⟩
end Go.Proofs.YtofhphibahcniaaGreatDoor
namespace Go.Proofs.YtofhphibahcniaaGreatDoor
open Go.RowKit Go.Shelf Go.Proofs.Tryz
attribute [local go_sem] Oper.semAt_some
theorem Xy(w:World)(a:Option Addr)(n cap:Nat):
 Calls prog 120 #[.slice a n cap] w fun e w'=>e=.returned (.func (.func 157) #[] #[pO w.heap.size 0])∧w'=w.alloc (.cells #[.slice a n cap] 131):=by
 go_enter func120,ntmps120;go_wp2;go_ret;exact⟨rfl,rfl⟩
theorem W7(F n₀:Nat)(a:Option Addr)(cap:Nat)(D:List Sp)(w:World)(ab:n₀=w.heap.size)(hd:w.cell? (aD F 0)=some (.slice a D.length cap))(ad:D.length≤1000)(I:DH w.cell? a D):
 MR 157 #[pO F 0] n₀ w D:=by
 subst ab;intro l ak bi W J ao O ap;have ar:F<w.heap.size:=bL hd;have ay:=(J.cell (p:=(aD F 0)) ar).trans hd;show CallsIn Fence.wide 0 prog 157 #[.func (.yield l) #[] #[],pO F 0] W _;refine callsIn_of_wp func157 rfl trivial ?_ rfl;simp only[ntmps157,List.size_toArray,n3,nR,Nat.reduceAdd,Nat.reduceSub,r9,r8,List.push_toArray,List.append_toArray,ru,n9];have az:Hid _:=O;have a1:Hid _:=I;obtain⟨N,Q⟩:=AQ D.length;rw[Q.out]at ay ad⊢;clear O I hd;gi_wp2
 gi_loopw [4,7] (fun _ i wr=>∃j:Nat,j≤N∧i=iN j∧ak j wr∧Below w.heap.size w wr) (fun _ i _=>N-(intOf i).toNat)
 case atStart=>exact⟨0,nN _,rfl,ap,J⟩
 case round=>
  obtain⟨j,bk,rfl,R,G⟩:=hrel;by_cases a6:j<N;rotate_left
  ·have a7:decide ((j:Int)<(N:Int))=false:=nB (by omega)
   gi_wp2
   go_end0
   exact⟨⟨_,rfl⟩,.inl (by rw[show N=j by omega];exact R)⟩
  ·have a7:decide ((j:Int)<(N:Int))=true:=nF (by omega)
   obtain⟨d,hd⟩:∃d,D[j]? =some d:=⟨_,nt (by rw[Q.out];exact a6)⟩;obtain⟨b,H,rfl,T⟩:∃b H,a=some (aD b H)∧∀i d,D[i]? =some d→Ce w b (H+i*2) (pO d.b d.p)∧Ce w b (H+i*2+1) (iN d.ly):=by
    rcases a1.out with e|e
    ·subst e;simp at hd
    ·exact e
   obtain⟨V,Y⟩:=T j d hd;have V:=Aj G _ _ V;have Y:=Aj G _ _ Y;have Z:Below wr.heap.size wr (wr.alloc (.cells #[pO d.b d.p,iN d.ly] 179)):=bN;obtain⟨c0,c1⟩:=GF wr (pO d.b d.p) (iN d.ly) 179;have a8:=G.trans (Z.mono G.size);obtain⟨fn,tmps,assign,body,ba,aa⟩:=az.out j d _ hd (ao _ _ _ R Z);rw[Sp.v]at ba;have bb:Hid _:=aa;clear aa hd T;gi_wp2
   refine⟨rfl,RoundIn.mono bb.out ?_⟩;rintro e bl (⟨rfl,bd,be⟩|⟨rfl,bf⟩)
   ·have bg:=a8.trans be
    gi_wp2
    go_roundw
    case rel=>exact⟨j+1,by omega,by go_num,bd,bg⟩
    case measure=>(simp[intOf];try omega)
   ·gi_wp2
    refine nG (results_none rfl _ _ _) rfl ?_;exact⟨⟨_,rfl⟩,.inr bf⟩
theorem cM(a:BA)(w:World):Calls prog 161 #[.string a] w fun e w'=>e=.returned (.bool false)∧w'=w:=by
 have h:(a.toList==a.toList)=true:=by simp
 go_enter func161,ntmps161;go_wp2;go_ret;exact⟨rfl,rfl⟩
def FQ(a b:BA):Int:=if AZ a b=true then-1 else if AZ b a=true then 1 else 0
theorem aY(a b:BA)(w:World):Calls prog 125 #[.string a,.string b] w fun e w'=>e=.returned (.int .i64 (FQ a b))∧w'=w:=by
 have F:=hid cM;cases h1:AZ a b with
 |true=>
  have e:FQ a b=-1:=by unfold FQ;rw[nD h1]
  rw[e];have G:Op.bytesLess a.toList b.toList=true:=h1;clear h1 e;go_enter func125,ntmps125;go_wp2_with (go_at_call 161;refine(F.out _ _).mono ?_;rintro e w' ⟨rfl,rfl⟩)
  go_ret;exact⟨rfl,rfl⟩
 |false=>
  have G:Op.bytesLess a.toList b.toList=false:=h1;cases h2:AZ b a with
  |true=>
   have e:FQ a b=1:=by unfold FQ;rw[nC (by rw[h1];simp),nD h2]
   rw[e];have H:(a.toList==b.toList)=false:=by
    rw[beq_eq_false_iff_ne];exact fun q=>Ia h2 (Jo q).symm
   clear h1 h2 e;go_enter func125,ntmps125;go_wp2_with (go_at_call 161;refine(F.out _ _).mono ?_;rintro e w' ⟨rfl,rfl⟩)
   go_ret;exact⟨rfl,rfl⟩
  |false=>
   have e:FQ a b=0:=by unfold FQ;rw[nC (by rw[h1];simp),nC (by rw[h2];simp)]
   rw[e];have H:(a.toList==b.toList)=true:=by
    rw[beq_iff_eq];rcases IE a b with q|q|q
    ·rw[h1]at q;cases q
    ·rw[q]
    ·rw[h2]at q;cases q
   clear h1 h2 e;go_enter func125,ntmps125;go_wp2_with (go_at_call 161;refine(F.out _ _).mono ?_;rintro e w' ⟨rfl,rfl⟩)
   go_ret;exact⟨rfl,rfl⟩
theorem RP(n:BA)(a:Option Addr)(F cap:Nat)(w:World)(G:F≤1000):Calls prog 122 #[.agg #[.string n,.slice a F cap]] w fun e w'=>e=.returned (.bool (decide (F=0)))∧w'=w.alloc (.cells #[.string n,.slice a F cap] 134):=by
 obtain⟨c0,c1⟩:=GF w (.string n) (.slice a F cap) 134;by_cases h:F=0
 ·subst h
  go_enter func122,ntmps122;go_wp2;go_ret;exact⟨rfl,rfl⟩
 ·have e:decide (F=0)=false:=nB h
  have H:((F:Int)==0)=false:=by rw[beq_eq_false_iff_ne];omega
  rw[e];go_enter func122,ntmps122;go_wp2;go_ret;exact⟨rfl,rfl⟩
theorem Yc(n F:BA)(a G:Option Addr)(l c H I:Nat)(w:World):Calls prog 124 #[.agg #[.string n,.slice a l c],.agg #[.string F,.slice G H I]] w fun e w'=>e=.returned (iN (FQ n F))∧w'=(w.alloc (.cells #[.string n,.slice a l c] 134)).alloc (.cells #[.string F,.slice G H I] 134):=by
 have J:Hid (∀W:World,cL 125 #[.string n,.string F] W fun e w'=>e=.returned (iN (FQ n F))∧w'=W):=fun W=>aY n F W;generalize FQ n F=r at J⊢
 go_enter func124,ntmps124;go_wp2_with (go_at_call 125;refine(J.out _).mono ?_;rintro e w' ⟨rfl,rfl⟩)
 go_ret;exact⟨rfl,rfl⟩
end Go.Proofs.YtofhphibahcniaaGreatDoor
namespace Go.Proofs.YtofhphibahcniaaGreatDoor
open Go.RowKit Go.Proofs.Tryz
abbrev Cy:=BA×Sp
abbrev Fx:=List (BA×List Sp)
def C8(nm:BA):List Cy→Option Sp
 |[]=>none
 |p::l=>if p.1=nm then some p.2 else C8 nm l
theorem Lr(nm:BA):∀(c d:List Cy),C8 nm (c++d)=(C8 nm c).or (C8 nm d)
 |[],d=>rfl
 |p::c,d=>by
  rw[n9,C8,C8];split
  ·rfl
  ·exact Lr nm c d
theorem Lt{nm:BA}{s:Sp}:∀{c:List Cy},C8 nm c=some s→(nm,s)∈c
 |[],h=>by cases h
 |p::c,h=>by
  rw[C8]at h;split at h
  ·rename_i e;cases h;rw[←e];exact nK ..
  ·exact n2 _ (Lt h)
def Dt(nm:BA)(P:List (List Cy))(c:List Cy):List Sp:=P.filterMap (C8 nm)++(C8 nm c).toList
structure Dw (A:Fx) (P:List (List Cy)) (c:List Cy):Prop where
 nd:(A.map (·.1)).Nodup
 eq:∀p∈A,p.2=Dt p.1 P c∧p.2≠[]
 all:∀nm,Dt nm P c≠[]→nm∈A.map (·.1)
theorem Dw.start:Dw [] [] []:=⟨List.nodup_nil,fun p F=>(by cases F),fun nm h=>absurd rfl h⟩
theorem Jq{nm F:BA}(h:nm≠F)(P:List (List Cy))(c:List Cy)(s:Sp):Dt F P (c++[(nm,s)])=Dt F P c:=by
 unfold Dt;rw[Lr];have:C8 F [(nm,s)]=none:=by rw[C8,nC h];rfl
 rw[this,Option.or_none]
theorem TP{nm:BA}{P:List (List Cy)}{c:List Cy}(h:C8 nm c=none)(s:Sp):Dt nm P (c++[(nm,s)])=Dt nm P c++[s]:=by
 unfold Dt;rw[Lr,h];simp[C8]
theorem dV{nm:BA}{P:List (List Cy)}{c:List Cy}(h:C8 nm c≠none)(s:Sp):Dt nm P (c++[(nm,s)])=Dt nm P c:=by
 unfold Dt;rw[Lr];cases e:C8 nm c with
 |none=>exact absurd e h
 |some t=>rfl
theorem Dw.new{A:Fx}{P:List (List Cy)}{c:List Cy}(h:Dw A P c){nm:BA}{s:Sp}(G:nm∉A.map (·.1)):Dw (A++[(nm,[s])]) P (c++[(nm,s)]):=by
 have H:Dt nm P c=[]:=by
  cases e:Dt nm P c with
  |nil=>rfl
  |cons t r=>exact absurd (h.all nm (by rw[e];simp)) G
 have J:C8 nm c=none:=by
  unfold Dt at H;have:=(List.append_eq_nil_iff.1 H).2;cases e:C8 nm c with
  |none=>rfl
  |some t=>rw[e]at this;cases this
 refine⟨?_,?_,?_⟩
 ·rw[rA,List.nodup_append]
  refine⟨h.nd,by simp,fun a O b hb=>?_⟩;simp only[rh,List.map_nil,rj]at hb;subst hb;intro e;subst e;exact G O
 ·intro p F
  rcases rd.1 F with F|F
  ·have Q:=h.eq p F
   have R:nm≠p.1:=fun e=>G (by rw[e];exact rW F);rw[Jq R];exact Q
  ·rw[rj]at F
   subst F;rw[TP J,H];exact⟨rfl,by simp⟩
 ·intro I h'
  by_cases e:nm=I
  ·subst e;simp
  ·rw[Jq e]at h'
   rw[rA];exact rd.2 (.inl (h.all I h'))
theorem RH{A:Fx}{i:Nat}{nm:BA}{L F:List Sp}(G:A[i]? =some (nm,L)):(A.set i (nm,F)).map (·.1)=A.map (·.1):=by
 rw[List.map_set];obtain⟨H,e⟩:=ny.1 G;apply List.ext_getElem?;intro j;rw[rP];split
 ·rename_i e2
  subst e2;simp[H,e]
 ·rfl
theorem Wt{A:Fx}{i:Nat}{q p:BA×List Sp}(h:p∈A.set i q):p=q∨∃j,j≠i∧A[j]? =some p:=by
 obtain⟨j,F⟩:=n5 h;rw[rP]at F;split at F
 ·split at F
  ·exact .inl (by cases F;rfl)
  ·cases F
 ·rename_i e
  exact .inr ⟨j,fun G=>e G.symm,F⟩
theorem Ze{A:Fx}(h:(A.map (·.1)).Nodup){i j:Nat}{p q:BA×List Sp}(F:A[i]? =some p)(G:A[j]? =some q)(e:p.1=q.1):i=j:=by
 induction A generalizing i j with
 |nil=>simp at F
 |cons a A H=>
  rw[rh,List.nodup_cons]at h;cases i with
  |zero=>
   cases j with
   |zero=>rfl
   |succ j=>
    simp at F;subst F;exact absurd (by rw[e];exact rW (nE (i:=j) (by simpa using G))) h.1
  |succ i=>
   cases j with
   |zero=>
    simp at G;subst G;exact absurd (by rw[←e];exact rW (nE (i:=i) (by simpa using F))) h.1
   |succ j=>exact nW (·+1) (H (i:=i) (j:=j) h.2 (by simpa using F) (by simpa using G))
theorem Dw.add{A:Fx}{P:List (List Cy)}{c:List Cy}(h:Dw A P c){i:Nat}{nm:BA}{L:List Sp}{s:Sp}(F:A[i]? =some (nm,L))(O:∀t,L.getLast? =some t→t.ly≠s.ly)(Q:∀q∈c,q.2.ly=s.ly):Dw (A.set i (nm,L++[s])) P (c++[(nm,s)]):=by
 have H:=h.eq _ (nE F);have R:C8 nm c=none:=by
  cases e:C8 nm c with
  |none=>rfl
  |some t=>
   have G:=H.1;simp only at G;unfold Dt at G;rw[e]at G;exact absurd (Q _ (Lt e)) (O t (by rw[G];simp))
 have T:=nE F;refine⟨by rw[RH F];exact h.nd,?_,?_⟩
 ·intro p V
  rcases Wt V with rfl|⟨j,Y,I⟩
  ·simp only
   rw[TP R,←H.1];exact⟨rfl,by simp⟩
  ·have Z:nm≠p.1:=fun e=>Y (Ze h.nd I F e.symm)
   rw[Jq Z];exact h.eq p (nE I)
 ·intro J h'
  rw[RH F];by_cases e:nm=J
  ·subst e;exact rW T
  ·rw[Jq e]at h'
   exact h.all J h'
theorem Dw.old{A:Fx}{P:List (List Cy)}{c:List Cy}(h:Dw A P c){i:Nat}{nm:BA}{L:List Sp}{s t:Sp}(G:A[i]? =some (nm,L))(J:L.getLast? =some t)(O:t.ly=s.ly)(Q:∀d∈P,∀q∈d,q.2.ly≠s.ly):Dw A P (c++[(nm,s)]):=by
 have R:=h.eq _ (nE G);have T:C8 nm c≠none:=fun e=>by
  have F:=R.1;simp only at F;unfold Dt at F;rw[e]at F;simp only[Option.toList_none,rQ]at F;have:t∈L:=List.mem_of_getLast? J;rw[F]at this;obtain⟨d,hd,V⟩:=rC.1 this;exact Q d hd _ (Lt V) O
 refine⟨h.nd,fun p H=>?_,fun I h'=>?_⟩
 ·by_cases e:nm=p.1
  ·subst e;rw[dV T];exact h.eq p H
  ·rw[Jq e];exact h.eq p H
 ·by_cases e:nm=I
  ·subst e;exact rW (nE G)
  ·rw[Jq e]at h';exact h.all I h'
theorem TU(nm:BA)(P:List (List Cy))(c:List Cy):Dt nm (P++[c]) []=Dt nm P c:=by
 unfold Dt;rw[List.filterMap_append];show _++_++[]=_;rw[rQ];cases e:C8 nm c with
 |none=>simp[e]
 |some t=>simp[e]
theorem Dw.dir{A:Fx}{P:List (List Cy)}{c:List Cy}(h:Dw A P c):Dw A (P++[c]) []:=⟨h.nd,fun p F=>by rw[TU];exact h.eq p F,fun nm h'=>h.all nm (by rw[TU]at h';exact h')⟩
def VX(A:Fx):Fx:=(A.map fun p=>(p.1,Bs p.2)).filter fun p=> !p.2.isEmpty
def Wk(p:BA×List Sp):BA×BM:=(p.1,p.2.map Sp.pr)
theorem QI{A PL:Fx}{K:List (List Cy)}{l:BM}(h:Dw A K [])(Q:∀nm,(Dt nm K []).map Sp.pr=Bz nm l)(R:PL.Perm (VX A))(aa:PL.Pairwise fun a b=>AZ b.1 a.1=false):
 PL.map Wk=(CS l).map fun nm=>(nm,CK l nm):=by
 have ab:((VX A).map (·.1)).Nodup:=by
  have F:((A.map fun p=>(p.1,Bs p.2)).map (·.1)).Nodup:=by
   rw[r4];exact h.nd
  exact F.sublist (List.Sublist.map _ List.filter_sublist)
 have ad:(PL.map (·.1)).Nodup:=(R.map _).nodup_iff.2 ab;have ak:Gm (PL.map (·.1)):=by
  unfold Gm;rw[List.pairwise_map];have G:PL.Pairwise fun a b=>a.1≠b.1:=by
   have:=ad;unfold List.Nodup at this;rwa [List.pairwise_map]at this
  refine(List.Pairwise.and aa G).imp ?_;rintro a b ⟨I,H⟩;rcases IE a.1 b.1 with e|e|e
  ·exact e
  ·exact absurd e H
  ·rw[e]at I;cases I
 have Y:∀p∈PL,p.2.map Sp.pr=CK l p.1∧CK l p.1≠[]:=by
  intro p T;have F:=R.mem_iff.1 T;obtain⟨G,I⟩:=List.mem_filter.1 F;obtain⟨q,J,rfl⟩:=rx.1 G;have H:=(h.eq q J).1;have O:(Bs q.2).map Sp.pr=CK l q.1:=by
   rw[OQ,H,Q];rfl
  refine⟨O,fun e=>?_⟩;rw[←O]at e;have V:=List.map_eq_nil_iff.1 e;simp[V]at I
 have ao:∀nm,CK l nm≠[]→nm∈PL.map (·.1):=by
  intro nm Z;have F:Bz nm l≠[]:=fun e=>Z (by unfold CK;rw[e];rfl);have G:Dt nm K []≠[]:=fun e=>F (by rw[←Q,e];rfl)
  obtain⟨q,J,e⟩:=rx.1 (h.all nm G);refine rx.2 ⟨(q.1,Bs q.2),R.mem_iff.2 (List.mem_filter.2 ⟨rx.2 ⟨q,J,rfl⟩,?_⟩),e⟩;have H:=(h.eq q J).1;have O:(Bs q.2).map Sp.pr=CK l q.1:=by rw[OQ,H,Q];rfl
  have ap:Bs q.2≠[]:=fun V=>Z (by rw[←e];show CK l q.1=[];rw[←O,V];rfl);simp only[Bool.not_eq_true']
  cases e3:(Bs q.2)with
  |nil=>exact absurd e3 ap
  |cons a b=>rfl
 have ar:PL.map (·.1)=CS l:=SD ak (QJ l) fun nm=>by
  rw[Rx];constructor
  ·intro ay
   obtain⟨p,az,rfl⟩:=rx.1 ay;exact(Y p az).2
  ·exact ao nm
 rw[←ar,r4];refine List.map_congr_left fun p T=>?_;show(p.1,p.2.map Sp.pr)=(p.1,CK l p.1)
 rw[(Y p T).1]
end Go.Proofs.YtofhphibahcniaaGreatDoor
namespace Go.Proofs.YtofhphibahcniaaGreatDoor
open Go.RowKit Go.Maps Go.Proofs.Tryz
structure Mv (S:Nat→Prop) (w w':World):Prop where
 os:w'.os=w.os
 tape:w'.tape=w.tape
 output:w'.output=w.output
 size:w.heap.size≤w'.heap.size
 block:∀k,k<w.heap.size→¬S k→w'.heap[k]? =w.heap[k]?
theorem Mv.refl(S:Nat→Prop)(w:World):Mv S w w:=⟨rfl,rfl,rfl,nn _,fun _ _ _=>rfl⟩
theorem Mv.trans{S:Nat→Prop}{a b c:World}(h:Mv S a b)(k:Mv S b c):Mv S a c:=
 ⟨k.os.trans h.os,k.tape.trans h.tape,k.output.trans h.output,nP h.size k.size,fun i F G=>(k.block i (nH F h.size) G).trans (h.block i F G)⟩
theorem Mv.of{S:Nat→Prop}{w w':World}(h:Below w.heap.size w w'):Mv S w w':=⟨h.os,h.tape,h.output,h.size,fun k F _=>h.block k F⟩
theorem Mv.setCell{S:Nat→Prop}{w w':World}(h:Mv S w w'){p:Addr}(F:S p.block)(u:Value):Mv S w (w'.setCell p u):=
 h.trans ⟨rfl,rfl,rfl,by simp[World.setCell],fun k _ G=>re _ _ _ _ (fun e=>G (e▸F))⟩
theorem Mv.below{S:Nat→Prop}{w w':World}(h:Mv S w w'){B:Nat}(F:B≤w.heap.size)(G:∀k,S k→B≤k):Below B w w':=
 ⟨h.os,h.tape,h.output,h.size,fun k H=>h.block k (nH H F) (fun I=>by have:=G k I;omega)⟩
theorem Mv.cell{S:Nat→Prop}{w w':World}(h:Mv S w w'){p:Addr}(F:p.block<w.heap.size)(G:¬S p.block):w'.cell? p=w.cell? p:=nS (w:=w) (h.block _ F G)
theorem Mv.frozen{S:Nat→Prop}{w w':World}(h:Mv S w w'){p:Addr}(F:p.block<w.heap.size)(G:¬S p.block):w'.frozen? p=w.frozen? p:=World.frozen?_of_block (w:=w) (h.block _ F G)
end Go.Proofs.YtofhphibahcniaaGreatDoor
namespace Go.Proofs.YtofhphibahcniaaGreatDoor
open Go.RowKit Go.Proofs.Tryz
structure Pe where
 n:BA
 a:Option Addr
 c:Nat
 L:List Sp
def Pe.pl(e:Pe):BA×List Sp:=(e.n,e.L)
structure DP (w:World) (b:Nat) (G:List Pe):Prop where
 cell:∀(i:Nat) e,G[i]? =some e→w.cell? ⟨b,i*2,none⟩=some (.string e.n)∧w.cell? ⟨b,i*2+1,none⟩=some (.slice e.a e.L.length e.c)
 free:∀j,w.frozen? ⟨b,j,none⟩=false
 lt:b<w.heap.size
theorem DP.mv{w w':World}{b:Nat}{G:List Pe}{S:Nat→Prop}(h:DP w b G)(hb:Mv S w w')(F:¬S b):DP w' b G:=
 ⟨fun i e H=>⟨(hb.cell (p:=(aD b (i*2))) h.lt F).trans (h.cell i e H).1,(hb.cell (p:=(aD b (i*2+1))) h.lt F).trans (h.cell i e H).2⟩,fun j=>(hb.frozen (p:=(aD b j)) h.lt F).trans (h.free j),nH h.lt hb.size⟩
theorem DP.below{w w':World}{b:Nat}{F:List Pe}(h:DP w b F)(hb:Below w.heap.size w w'):DP w' b F:=h.mv (S:=fun _=>False) (Mv.of hb) (fun e=>e)
theorem DP.set{w:World}{b:Nat}{G:List Pe}(h:DP w b G){i:Nat}{o:Pe}(H:G[i]? =some o)(e:Pe):DP ((w.setCell (aD b (i*2)) (.string e.n)).setCell (aD b (i*2+1)) (.slice e.a e.L.length e.c)) b (G.set i e):=by
 obtain⟨I,J⟩:=h.cell i o H;refine⟨fun j f F=>?_,fun j=>by rw[rJ,rJ];exact h.free j,by rw[World.size_setCell,World.size_setCell];exact h.lt⟩;rw[rP]at F;split at F
 ·rename_i e1
  subst e1;split at F
  ·cases F
   refine⟨?_,?_⟩
   ·rw[nA _ _ _ _ (by simp)]
    exact nI _ _ _ I
   ·exact nI _ _ _ ((nA _ _ _ _ (by simp)).trans J)
  ·cases F
 ·rename_i e1
  obtain⟨q1,q2⟩:=h.cell j f F;refine⟨?_,?_⟩
  ·rw[nA _ _ _ _ (fun e=>by have:=(Addr.mk.inj e).2.1;omega),nA _ _ _ _ (fun e=>by have:=(Addr.mk.inj e).2.1;omega)];exact q1
  ·rw[nA _ _ _ _ (fun e=>by have:=(Addr.mk.inj e).2.1;omega),nA _ _ _ _ (fun e=>by have:=(Addr.mk.inj e).2.1;omega)];exact q2
theorem Xp{w:World}{b cap:Nat}{F:List Pe}(h:DP w b F)(ab:F.length≤1000)(R:∀e∈F,e.L.length≤1000):
 Calls prog 158 #[sL b 0 F.length cap,.func (.func 122) #[] #[]] w fun e w'=>((e=.returned (iN (-1))∧∀x∈F,x.L≠[])∨∃i x,e=.returned (iN (i:Nat))∧F[i]? =some x∧x.L=[]∧∀x∈F.take i,x.L≠[])∧Below w.heap.size w w':=by
 obtain⟨N,I⟩:=AQ F.length;have ad:Hid _:=h;have ak:Hid _:=R;rw[I.out]at ab⊢;clear h R;go_enter func158,ntmps158;go_wp2;go_loopw [8] (fun i wr=>∃j:Nat,j≤N∧i=iN j∧Hid (∀x∈F.take j,x.L≠[])∧Below w.heap.size w wr) (fun i _=>N-(intOf i).toNat)
 case atStart=>exact⟨0,nN _,rfl,fun x hx=>(by simp at hx),nv _ _⟩
 case round=>
  obtain⟨j,a6,rfl,J,H⟩:=hrel;by_cases ao:j<N;rotate_left
  ·have ap:decide ((j:Int)<(N:Int))=false:=nB (by omega)
   have ar:Hid (∀x∈F,x.L≠[]):=by
    have G:=J.out;rw[n1 (by rw[I.out];omega)]at G;exact G
   go_wp2;go_ret;exact⟨.inl ⟨rfl,ar.out⟩,H⟩
  have ap:(j:Int)<(N:Int):=by omega
  obtain⟨x,hx⟩:∃x,F[j]? =some x:=⟨_,nt (by rw[I.out];exact ao)⟩;obtain⟨c0,c1⟩:=(ad.out.below H).cell j x hx;have ay:=ak.out x (nE hx);have T:=hid hx;have O:=hid (RP x.n x.a x.L.length x.c wr ay);obtain⟨t,Q⟩:∃t,(decide (x.L.length=0))=t:=⟨_,rfl⟩;have V:=hid Q;rw[Q]at O;have Y:Below wr.heap.size wr (wr.alloc (.cells #[.string x.n,.slice x.a x.L.length x.c] 134)):=bN;have Z:=H.trans (Y.mono H.size);clear hx Q Y;go_wp2_with fail
  refine O.out.mono ?_;rintro e a7 ⟨rfl,rfl⟩;clear O c0 c1;cases t
  ·have az:Hid (∀y∈F.take (j+1),y.L≠[]):=fun y aa=>by
    rw[rv,T.out]at aa;rcases rd.1 aa with G|G
    ·exact J.out y G
    ·simp at G
     rw[G];intro e;have:=V.out;rw[e]at this;simp at this
   go_wp2;go_roundw
   case rel=>exact⟨j+1,by omega,by go_num,az.out,Z⟩
   case measure=>(simp[intOf];try omega)
  ·have a1:Hid (x.L=[]):=nX (rI V.out)
   go_wp2;go_ret;exact⟨.inr ⟨j,x,rfl,T.out,a1.out,J.out⟩,Z⟩
theorem Wv{P:Program}(w:World)(t e Q:TypeId)(F G:Value)(H:P.underlying t=some (.slice e))(R:∀w,(zeroValue e).run P w=.ok (.agg #[F,G]) w)(T:F.oneCell'=true)(V:G.oneCell'=true)(Y:(Value.agg #[F,G]).cells=#[F,G])(b o n c:Nat)
 (Z:∀j,j<n*2→(w.cell? (aD b (o+j))).isSome=true) (aa:∀j,j<n*2→w.frozen? (aD b (o+j))=false):
 ∃I:List Value,I.length=n*2∧(Builtin.clear_ #[t] Q #[sL b o n c]).run P w=.ok (.tuple #[]) (w.setCells b o I):=by
 cases n with
 |zero=>exact⟨[],rfl,by simp[Builtin.clear_,run_underlying H,World.setCells]⟩
 |succ m=>
  have ab:(Builtin.zeroCells #[F,G] (m+1)).toList.length=(m+1)*2:=by simp[Builtin.zeroCells]
  refine⟨(Builtin.zeroCells #[F,G] (m+1)).toList,ab,?_⟩
  have J:=run_storeCells_cells (P:=P) b o (Builtin.zeroCells #[F,G] (m+1)).toList 0 w (fun j ad=>by rw[rT];exact Z j (by omega)) (fun j ad=>by rw[rT];exact aa j (by omega)) (by
   intro v O;simp only[Builtin.zeroCells,Array.toList_map,rx]at O;obtain⟨i,_,rfl⟩:=O;have:i%(#[F,G]:Array Value).size<2:=Nat.mod_lt _ (by simp);generalize i%(#[F,G]:Array Value).size=r at this;match r,this with
   |0,_=>exact T
   |1,_=>exact V)
  rw[rT]at J;simp[Builtin.clear_,run_underlying H,R,Y,J]
theorem Ta{w:World}{b o:Nat}(F:List Value):Mv (fun k=>k=b) w (w.setCells b o F):=by
 induction F generalizing w o with
 |nil=>exact Mv.refl _ _
 |cons v r G=>exact(Mv.setCell (S:=fun k=>k=b) (Mv.refl _ w) (p:=(aD b o)) rfl v).trans G
theorem eX(w:World):(zeroValue 134).run prog w=.ok (.agg #[.string ⟨#[]⟩,.slice none 0 0]) w:=by kernel_rfl
theorem WQ{F:Type}(G:List F)(k:Nat)(x:F):(G.set k x).take k=G.take k:=by
 apply List.ext_getElem?;intro q;rw[rL,rL];split
 ·rw[List.getElem?_set_ne (by omega)]
 ·rfl
def Dz(F:List Pe):List Pe:=F.filter fun e=> !e.L.isEmpty
theorem Rk{F:List Pe}(h:∀x∈F,x.L≠[]):Dz F=F:=List.filter_eq_self.2 fun x hx=>by
 have:=h x hx;cases hL:x.L with
 |nil=>exact absurd hL this
 |cons a b=>rfl
theorem M8{F:List Pe}{j:Nat}{x:Pe}(h:F[j]? =some x):Dz (F.take (j+1))=Dz (F.take j)++(if x.L=[]then []else [x]):=by
 unfold Dz;rw[rv,h,List.filter_append];congr 1;show List.filter _ [x]=_;rw[List.filter_cons];cases hL:x.L with
 |nil=>simp
 |cons a b=>simp
theorem aM{w:World}{b cap:Nat}{F:List Pe}(h:DP w b F)(a8:F.length≤1000)(ad:∀e∈F,e.L.length≤1000)(bF:F.length≤cap)(_hcap2:cap≤9223372036854775807):
 Calls prog 121 #[sL b 0 F.length cap,.func (.func 122) #[] #[]] w fun e w'=>e=.returned (sL b 0 (Dz F).length cap)∧DP w' b (Dz F)∧Mv (fun k=>k=b) w w':=by
 have T:Hid _:=Xp (cap:=cap) h a8 ad;obtain⟨N,J⟩:=AQ F.length;have ba:Hid _:=h;have bG:Hid _:=ad;rw[J.out]at a8 bF T⊢;clear h ad;go_enter func121,ntmps121;go_wp2_with fail
 refine np T.out ?_;rintro e cu ⟨(⟨rfl,bb⟩|⟨i,x,rfl,hx,bd,be⟩),Q⟩
 ·have bf:Hid (Dz F=F):=Rk bb
  have V:Hid _:=ba.out.below Q;clear T bb;go_wp2;go_ret;refine⟨?_,?_,Mv.of Q⟩
  ·rw[bf.out,J.out];rfl
  ·rw[bf.out];exact V.out
 have ak:i<N:=by rw[←J.out];exact(ny.1 hx).1
 have bg:Hid (F.take i=Dz (F.take (i+1))):=by
  show _=_;rw[M8 hx,nD bd,rQ,Rk be]
 have V:Hid _:=ba.out.below Q;have bH:((i:Int)==-1)=false:=by rw[beq_eq_false_iff_ne];omega
 have cx:=hid ak;clear T hx bd be;go_wp2;go_loopg [5,6,7] (N-(i+1)) (fun bY b0 b1 _ wr=>∃(k j:Nat) (G:List Pe),b0=iN k∧b1=iN j∧k<j∧j≤N∧N-j≤bY∧G.length=N∧Hid (G.take k=Dz (F.take j)∧G.drop j=F.drop j)∧Hid (DP wr b G)∧Mv (fun q=>q=b) w wr)
 case atStart=>exact⟨i,i+1,F,rfl,by go_num,by omega,ak,nn _,J.out,⟨bg.out,rfl⟩,V.out,Mv.of Q⟩
 case round=>
  obtain⟨k,j,G,rfl,rfl,c3,c4,c5,bi,I,H,bk⟩:=hrel;clear V Q bg ak bH;by_cases b2:j<N
  ·have b3:decide ((j:Int)<(N:Int))=true:=nF (by omega)
   obtain⟨x,hx⟩:∃x,F[j]? =some x:=⟨_,nt (by rw[J.out];exact b2)⟩;have bl:G[j]? =some x:=by
    have Y:=nW (fun l=>l[0]?) I.out.2;simp only[rM,rT]at Y;rw[Y];exact hx
   obtain⟨o,Z⟩:∃o,G[k]? =some o:=⟨_,nt (by omega)⟩;obtain⟨c0,c1⟩:=H.out.cell j x bl;have ao:Below wr.heap.size wr (wr.alloc (.cells #[.string x.n,.slice x.a x.L.length x.c] 134)):=bN;have ap:Below wr.heap.size wr ((wr.alloc (.cells #[.string x.n,.slice x.a x.L.length x.c] 134)).alloc (.cells #[.string x.n,.slice x.a x.L.length x.c] 134)):=ao.alloc ao.size _;obtain⟨bn,bo⟩:=GF wr (.string x.n) (.slice x.a x.L.length x.c) 134;have b4:=Aj ((nv _ (wr.alloc (.cells #[.string x.n,.slice x.a x.L.length x.c] 134))).alloc (nn _) (.cells #[.string x.n,.slice x.a x.L.length x.c] 134)) _ _ bn;have b5:=Aj ((nv _ (wr.alloc (.cells #[.string x.n,.slice x.a x.L.length x.c] 134))).alloc (nn _) (.cells #[.string x.n,.slice x.a x.L.length x.c] 134)) _ _ bo;have O:=H.out.below ap;obtain⟨b6,b7⟩:=O.cell k o Z;have b9:=O.free (k*2);have cb:=O.free (k*2+1);have bp:Hid _:=O.set Z x;have bs:=bk.trans (Mv.of ap);have cd:=bG.out x (nE hx);have ar:Hid (cL 122 #[.agg #[.string x.n,.slice x.a x.L.length x.c]] (wr.alloc (.cells #[.string x.n,.slice x.a x.L.length x.c] 134)) fun e w'=>e=.returned (.bool (decide (x.L.length=0)))∧w'=(wr.alloc (.cells #[.string x.n,.slice x.a x.L.length x.c] 134)).alloc (.cells #[.string x.n,.slice x.a x.L.length x.c] 134)):=RP x.n x.a x.L.length x.c _ cd;have bu:=hid hx;have cf:Hid _:=O;have c6:=hid Z;have aa:Hid (G.drop (j+1)=F.drop (j+1)):=by
    show _=_;have Y:=nW (List.drop 1) I.out.2;rwa [List.drop_drop,List.drop_drop]at Y
   obtain⟨t,ay⟩:∃t,(decide (x.L.length=0))=t:=⟨_,rfl⟩;have bv:=hid ay;rw[ay]at ar;clear hx bl ay ao ap O Z H;go_wp2_with fail
   refine ar.out.mono ?_;rintro e c8 ⟨rfl,rfl⟩;clear ar c0 c1 bn bo;cases t
   ·have bx:x.L≠[]:=fun e=>by have:=bv.out;rw[e]at this;simp at this
    have az:Hid ((G.set k x).take (k+1)=Dz (F.take (j+1))∧(G.set k x).drop (j+1)=F.drop (j+1)):=by
     refine⟨?_,?_⟩
     ·rw[M8 bu.out,nC bx,←I.out.1,rv,WQ,List.getElem?_set_self (by omega)];rfl
     ·rw[List.drop_set,nD (by omega)];exact aa.out
    clear bx I aa;go_wp2;go_roundg (N-(j+1))
    case measure=>omega
    case rel=>exact⟨k+1,j+1,G.set k x,by go_num,by go_num,by omega,by omega,nn _,by rw[List.length_set];exact bi,az.out,bp.out,(bs.setCell (p:=(aD b (k*2))) rfl _).setCell (p:=(aD b (k*2+1))) rfl _⟩
   ·have bA:x.L=[]:=nX (rI bv.out)
    have az:Hid (G.take k=Dz (F.take (j+1))∧G.drop (j+1)=F.drop (j+1)):=⟨by rw[M8 bu.out,nD bA,rQ];exact I.out.1,aa.out⟩;clear bA I aa bp b9 cb b6 b7 b4 b5;go_wp2;go_roundg (N-(j+1))
    case measure=>omega
    case rel=>exact⟨k,j+1,G,rfl,by go_num,by omega,by omega,nn _,bi,az.out,cf.out,bs⟩
  ·obtain rfl:j=N:=by omega
   have b3:=nB (by omega);have a1:Hid (G.take k=Dz F):=by
    have cg:=I.out.1;rwa [n1 (l:=F) (by rw[J.out];omega)]at cg
   have bB:Hid (k=(Dz F).length):=by
    show _=_;rw[←a1.out,rF];omega
   have bC:∀q,q<(j-k)*2→(wr.cell? (aD b (k*2+q))).isSome=true:=fun q ab=>by
    obtain⟨y,ch⟩:∃y,G[k+q / 2]? =some y:=⟨_,nt (by omega)⟩;obtain⟨a6,a7⟩:=H.out.cell _ y ch;rcases Nat.mod_two_eq_zero_or_one q with e|e
    ·rw[show k*2+q=(k+q / 2)*2 by omega,a6];rfl
    ·rw[show k*2+q=(k+q / 2)*2+1 by omega,a7];rfl
   obtain⟨R,cl,c9⟩:=Wv (P:=prog) wr 129 134 0 (.string ⟨#[]⟩) nL underlying129 eX rfl rfl rfl b (k*2) (j-k) (cap-k) bC (fun q _=>H.out.free _);have co:Hid (DP (wr.setCells b (k*2) R) b (Dz F)):=by
    refine⟨fun q e ab=>?_,fun q=>by rw[rm];exact H.out.free q,by have:=(Ta (w:=wr) (b:=b) (o:=k*2) R).size;exact nH H.out.lt this⟩;have cp:q<k:=by rw[bB.out];exact(ny.1 ab).1
    rw[←a1.out,List.getElem?_take_of_lt cp]at ab;obtain⟨a6,a7⟩:=H.out.cell q e ab;exact⟨(World.cell?_setCells_out b R _ _ _ fun _ _=>.inl (by show q*2<k*2;omega)).trans a6,(World.cell?_setCells_out b R _ _ _ fun _ _=>.inl (by show q*2+1<k*2;omega)).trans a7⟩
   have cr:=bk.trans (Ta (w:=wr) (b:=b) (o:=k*2) R);clear bC cl H I a1;go_wp2;go_ret;exact⟨by rw[←bB.out];rfl,co.out,cr⟩
end Go.Proofs.YtofhphibahcniaaGreatDoor
namespace Go.Proofs.YtofhphibahcniaaGreatDoor
open Go.RowKit Go.Maps Go.Proofs.Tryz
theorem Xa{w:World}{base:Nat}{e:TypeId}{size g n cap:Nat}{xs:List Value}(h:w.ownsRow base e size (.slice (some ⟨g,0,none⟩) n cap) n xs)(j:Nat)(u:Value):(w.setCell ⟨g,j,none⟩ u).ownsRow base e size (.slice (some ⟨g,0,none⟩) n cap) n (xs.set j u):=by
 refine⟨by rw[List.length_set];exact h.1,.inr ?_⟩;rcases h.2 with⟨F,_⟩|⟨V,Y,G,F,hb,H,I,J,O,Q⟩
 ·cases F
 simp only[rp,nV,rc,true_and]at F;obtain⟨⟨rfl,_⟩,rfl⟩:=F;refine⟨g,cap,G.setIfInBounds j u,rfl,hb,?_,I,J,by rw[Array.size_setIfInBounds];exact O,?_⟩
 ·obtain⟨R,T⟩:=nJ.1 H
  show(w.heap.modify g _)[g]? =_;rw[Array.getElem?_eq_getElem (by rw[Array.size_modify];exact R),Array.getElem_modify_self,T];rfl
 ·rw[Array.toList_setIfInBounds,List.take_set,Q]
def DW:List Pe→List Value
 |[]=>[]
 |e::r=>.string e.n::.slice e.a e.L.length e.c::DW r
theorem Ui:∀A B:List Pe,DW (A++B)=DW A++DW B
 |[],_=>rfl
 |e::r,B=>by simp[DW,Ui r B]
theorem Mf:∀(A:List Pe) (i:Nat) (e:Pe),A[i]? =some e→(DW A)[i*2]? =some (.string e.n)∧(DW A)[i*2+1]? =some (.slice e.a e.L.length e.c)
 |[],i,e,h=>by simp at h
 |t::A,0,e,h=>by simp at h;subst h;exact⟨rfl,rfl⟩
 |t::A,i+1,e,h=>by
  have:=Mf A i e (by simpa using h);rw[show(i+1)*2=i*2+2 by omega];simpa [DW]using this
theorem TJ:∀(A:List Pe),∀u∈DW A,u.oneCell'=true
 |[],u,h=>by cases h
 |e::r,u,F=>by
  simp[DW]at F;rcases F with rfl|rfl|F
  ·rfl
  ·rfl
  ·exact TJ r u F
theorem TK:∀(A:List Pe) (i:Nat) (e o:Pe),A[i]? =some o→o.n=e.n→DW (A.set i e)=(DW A).set (i*2+1) (.slice e.a e.L.length e.c)
 |[],i,e,o,h,_=>by simp at h
 |t::A,0,e,o,h,hn=>by
  simp at h;subst h;simp[DW,hn]
 |t::A,i+1,e,o,h,hn=>by
  have:=TK A i e o (by simpa using h) hn;rw[show(i+1)*2+1=i*2+1+1+1 by omega];simp[DW,this]
def Gt(nm:BA):List BA→Nat→Option Nat
 |[],_=>none
 |x::r,i=>if x=nm then some i else Gt nm r (i+1)
theorem Ol{nm:BA}:∀{N:List BA} {i:Nat},nm∉N→Gt nm N i=none
 |[],_,_=>rfl
 |x::r,i,h=>by rw[Gt,nC (fun e=>h (by rw[e];exact nK ..)),Ol fun e=>h (n2 _ e)]
theorem UU{nm:BA}:∀{N:List BA} {i:Nat},nm∈N→∃k,Gt nm N i=some (i+k)∧N[k]? =some nm
 |[],_,h=>by cases h
 |x::r,i,h=>by
  rw[Gt];by_cases e:x=nm
  ·rw[nD e];exact⟨0,rfl,by simp[e]⟩
  ·rw[nC e]
   obtain⟨k,F,G⟩:=UU (i:=i+1) ((nY.1 h).resolve_left fun q=>e q.symm);exact⟨k+1,by rw[F];congr 1;omega,by simpa using G⟩
theorem Su{nm x:BA}:∀{N:List BA} {i:Nat},Gt nm (N++[x]) i=(Gt nm N i).or (if x=nm then some (i+N.length)else none)
 |[],i=>by
  show(if x=nm then some i else none)=(none:Option Nat).or (if x=nm then some (i+0)else none);split<;>rfl
 |y::r,i=>by
  rw[n9,Gt,Gt];split
  ·rfl
  ·rw[Su,n3,show i+1+r.length=i+(r.length+1) by omega]
abbrev kN(nm:BA):Lit:=.string nm.data.toList
theorem eh{a b:BA}(h:a≠b):kN a≠kN b:=fun e=>h (by
 have G:a.data.toList=b.data.toList:=by injection e
 have F:a.data=b.data:=Array.toList_inj.1 G;cases a;cases b;simp at F;rw[F])
theorem Vl(nm:BA):WideAt.IsKeyLit (kN nm):=by simp[WideAt.IsKeyLit]
def JM(D:DataW Unit)(N:List BA):Prop:=IsMap D∧∀nm:BA,Maps.has D (kN nm)=(Gt nm N 0).isSome∧D.atKey (kN nm) (.lit (.int .i64 0))=.lit (.int .i64 (((Gt nm N 0).getD 0:Nat):Int))
theorem ZJ:JM (.map []) []:=⟨isMap_empty,fun _=>⟨rfl,rfl⟩⟩
theorem bq{D:DataW Unit}{N:List BA}{x:BA}(h:JM D N)(G:x∉N):JM (D.put (kN x) (.lit (.int .i64 (N.length:Int)))) (N++[x]):=by
 refine⟨h.1.put _ _,fun nm=>?_⟩;rw[Su];by_cases e:x=nm
 ·subst e
  rw[nD rfl,Ol G,has_put_same h.1 (Vl _),atKey_put_same h.1 (Vl _)];exact⟨rfl,by simp⟩
 ·have F:=eh fun q=>e (Eq.symm q)
  rw[nC e,Option.or_none,has_put_other F,atKey_put_other F];exact h.2 nm
theorem VO:Keyed prog 9:=string_keyed underlying9
theorem eQ(w:World):(zeroValue 3).run prog w=.ok (.int .i64 0) w:=by kernel_rfl
theorem Nx{w w':World}{b n:Nat}{D:DataW Unit}(h:w.ownsMap prog 9 (plainElem prog 3) b n D)(hb:w'.heap[b]? =w.heap[b]?):w'.ownsMap prog 9 (plainElem prog 3) b n D:=by
 obtain⟨F,G,H,r⟩:=h;exact⟨F,G,hb.trans H,r⟩
theorem J6{w:World}{b n base m:Nat}{D:DataW Unit}{t:TypeId}{size:Nat}{v:Value}{xs:List Value}(h:w.ownsMap prog 9 (plainElem prog 3) b n D)(G:w.ownsRow base t size v m xs):v.ownBlock≠some b:=by
 obtain⟨I,J,H,r⟩:=h;rcases G.2 with⟨rfl,_⟩|⟨g,cap,O,rfl,_,F,_⟩
 ·simp[Value.ownBlock]
 ·intro e
  simp[Value.ownBlock]at e;subst e;rw[H]at F;cases F
theorem Kc{w:World}{O Q R T V Y:Nat}{H I:TypeId}{F J:Value}{Z aa:List Value}(ab:H≠I)(ad:w.ownsRow O H V F R Z)(ak:w.ownsRow Q I Y J T aa):F.ownBlock=none∨F.ownBlock≠J.ownBlock:=by
 rcases ad.2 with⟨rfl,_⟩|⟨g,cap,ap,rfl,_,ao,_⟩
 ·exact .inl rfl
 ·right
  rcases ak.2 with⟨rfl,_⟩|⟨ar,ay,az,rfl,_,G,_⟩
  ·simp[Value.ownBlock]
  ·intro e
   simp[Value.ownBlock]at e;subst e;rw[ao]at G;simp at G;exact ab G.2
structure Er (w W:World) (mb:Nat) (v:Value) (E:List Pe):Prop where
 low:Below w.heap.size w W
 row:W.ownsRow w.heap.size 134 2 v E.length (DW E)
 each:∀e∈E,W.ownsRow w.heap.size 179 2 (.slice e.a e.L.length e.c) e.L.length (Dy e.L)
 apart:∀(i j:Nat) e f,E[i]? =some e→E[j]? =some f→i≠j→e.a≠f.a
 ne:∀e∈E,e.L≠[]
 mp:∃D,W.ownsMap prog 9 (plainElem prog 3) mb E.length D∧JM D (E.map (·.n))
 mlow:w.heap.size≤mb
theorem Er.keep{w W G:World}{F:Nat}{v:Value}{E:List Pe}(h:Er w W F v E)(hb:Below W.heap.size W G):Er w G F v E:=by
 obtain⟨D,H,I⟩:=h.mp;exact⟨h.low.trans (hb.mono h.low.size),Fp h.row hb,fun e J=>Fp (h.each e J) hb,h.apart,h.ne,⟨D,Nx H (hb.block F H.lt),I⟩,h.mlow⟩
theorem Gd{w:World}{base:Nat}{t:TypeId}{a:Option Addr}{n cap size:Nat}{xs:List Value}(h:w.ownsRow base t size (.slice a n cap) n xs)(G:0<n):∃g,a=some ⟨g,0,none⟩∧base≤g∧g<w.heap.size:=by
 rcases h.2 with⟨_,H⟩|⟨g,I,J,e,hb,F,_⟩
 ·omega
 ·simp only[rp,true_and]at e
  exact⟨g,e.1,hb,(nJ.1 F).1⟩
theorem Er.new{w W F Y:World}{T:Nat}{v ak:Value}{E:List Pe}{nm:BA}{s:Sp}{D:DataW Unit}(h:Er w W T v E)(az:F.ownsMap prog 9 (plainElem prog 3) T (E.length+1) D)(a1:JM D (E.map (·.n)++[nm]))(G:W.grownBy F (some T))
 (a6:Y.ownsRow w.heap.size 134 2 ak (E.length+1) (DW E++DW [⟨nm,some ⟨F.heap.size,0,none⟩,1,[s]⟩]))
 (Q:((F.alloc (.cells #[.pointer (some ⟨s.b,s.p,none⟩),.int .i64 s.ly] 179)).alloc (.cells #[.string nm,.slice (some ⟨F.heap.size,0,none⟩) 1 1] 134)).grownBy Y v.ownBlock):
 Er w Y T ak (E++[⟨nm,some ⟨F.heap.size,0,none⟩,1,[s]⟩]):=by
 have aa:((F.alloc (.cells #[.pointer (some ⟨s.b,s.p,none⟩),.int .i64 s.ly] 179)).alloc (.cells #[.string nm,.slice (some ⟨F.heap.size,0,none⟩) 1 1] 134)).heap.size=F.heap.size+1+1:=by rw[nw,nw]
 have a7:w.heap.size≤F.heap.size:=nP h.low.size G.size;have ao:∀g,v.ownBlock=some g→w.heap.size≤g∧g<W.heap.size:=fun g R=>⟨(h.row.lt g R).1,(h.row.lt g R).2⟩
 have ap:∀k,k<W.heap.size→k≠T→v.ownBlock≠some k→Y.heap[k]? =W.heap[k]?:=fun k ab Z a8=>by
  rw[Q.block k (by rw[aa];have:=G.size;omega) (fun e=>a8 e.symm),rR _ _ _ (by rw[nw];have:=G.size;omega),rR _ _ _ (by have:=G.size;omega)];exact G.block k ab (by simpa using Z)
 obtain⟨bg,ad,_⟩:=h.mp;have ba:Below w.heap.size W Y:=⟨Q.os.trans G.os,Q.tape.trans G.tape,Q.output.trans G.output,by have Z:=Q.size;rw[aa]at Z;have:=G.size;omega,fun k ab=>ap k (nH ab h.low.size) (fun e=>by have:=h.mlow;omega) (fun e=>by have:=(ao k e).1;omega)⟩
 have bb:((F.alloc (.cells #[.pointer (some ⟨s.b,s.p,none⟩),.int .i64 s.ly] 179))).ownsRow w.heap.size 179 2 (.slice (some ⟨F.heap.size,0,none⟩) 1 1) 1 (Dy [s]):=
  ⟨rfl,.inr ⟨F.heap.size,1,#[.pointer (some ⟨s.b,s.p,none⟩),.int .i64 s.ly],rfl,a7,heap_alloc_new F _,nn _,by decide,rfl,rfl⟩⟩
 refine⟨h.low.trans ba,?_,?_,?_,?_,?_,h.mlow⟩
 ·rw[nM,Ui];exact a6
 ·intro e H
  rcases rd.1 H with H|H
  ·have V:=h.each e H
   refine Hy V fun g R=>?_;have bd:=J6 ad V
   have be:=Kc (show 179≠134 by decide) V h.row;refine ap g (V.lt g R).2 (fun O=>bd (by rw[R,O])) (fun O=>?_);rcases be with q|q
   ·rw[R]at q;cases q
   ·exact q (R.trans O.symm)
  ·rw[rj]at H
   subst H;refine(bb.alloc _).kept Q (.inr fun O=>?_);have Z:=(ao F.heap.size (by rw[←O];rfl)).2;have:=G.size;omega
 ·intro i j e f J I bf
  have ar:∀(i:Nat) e,E[i]? =some e→e.a≠some ⟨F.heap.size,0,none⟩:=fun i e J O=>by
   have V:=h.each e (nE J);obtain⟨g,ay,_,bi⟩:=Gd V (ri.2 (h.ne e (nE J)));rw[O]at ay;simp only[nV,rc]at ay;have:=G.size;omega
  rw[List.getElem?_append]at J I;split at J
  ·split at I
   ·exact h.apart i j e f J I bf
   ·rw[List.getElem?_singleton]at I
    split at I
    ·cases I;exact ar i e J
    ·cases I
  ·rename_i hil
   rw[List.getElem?_singleton]at J;split at J
   ·cases J
    split at I
    ·exact fun O=>ar j f I O.symm
    ·rw[List.getElem?_singleton]at I
     split at I
     ·omega
     ·cases I
   ·cases J
 ·intro e H
  rcases rd.1 H with H|H
  ·exact h.ne e H
  ·rw[rj]at H
   subst H;simp
 ·refine⟨D,?_,by rw[rA];exact a1⟩
  rw[nM];refine Nx az ?_;have bk:=ad.lt;rw[Q.block T (by rw[aa];have:=G.size;omega) (fun e=>J6 ad h.row e.symm),rR _ _ _ (by rw[nw];have:=G.size;omega),rR _ _ _ (by have:=G.size;omega)]
theorem Er.add{w W W2:World}{V I cap:Nat}{E:List Pe}{i:Nat}{e:Pe}{s:Sp}{a2:Option Addr}{c2:Nat}(h:Er w W V (.slice (some ⟨I,0,none⟩) E.length cap) E)(O:E[i]? =some e)
 (a1:W2.ownsRow w.heap.size 179 2 (.slice a2 (e.L.length+1) c2) (e.L.length+1) (Dy e.L++Dy [s])) (J:(W.alloc (.cells #[.pointer (some ⟨s.b,s.p,none⟩),.int .i64 s.ly] 179)).grownBy W2 (Value.slice e.a e.L.length e.c).ownBlock)
 (Y:(Value.slice a2 (e.L.length+1) c2).ownBlock=(Value.slice e.a e.L.length e.c).ownBlock∨(Value.slice a2 (e.L.length+1) c2).ownBlock=some (W.alloc (.cells #[.pointer (some ⟨s.b,s.p,none⟩),.int .i64 s.ly] 179)).heap.size):
 Er w (W2.setCell ⟨I,i*2+1,none⟩ (.slice a2 (e.L.length+1) c2)) V (.slice (some ⟨I,0,none⟩) E.length cap) (E.set i ⟨e.n,a2,c2,e.L++[s]⟩):=by
 have a6:=nE O;have ak:=h.each e a6;have be:=ri.2 (h.ne e a6);obtain⟨ge,Q,bH,bY⟩:=Gd ak be;obtain⟨bf,ao,b0,b1⟩:=Gd a1 (by omega);rw[nw]at Y;rw[Q,ao]at Y;simp only[Value.ownBlock,nV]at Y;rw[Q]at J;simp only[Value.ownBlock]at J;have b2:=(ny.1 O).1;obtain⟨b3,ab,bg,bi⟩:=Gd h.row (by omega);simp only[nV,rc]at ab;obtain⟨ab,_⟩:=ab;subst ab;have a7:I≠ge:=fun q=>by
  rcases Kc (show 134≠179 by decide) h.row ak with G|G
  ·cases G
  ·exact G (by rw[Q];show some I=some ge;rw[q])
 obtain⟨D,ad,bk⟩:=h.mp;have bl:V≠ge:=fun q=>J6 ad ak (by rw[Q,q];rfl);have bn:V≠I:=fun q=>J6 ad h.row (by rw[q];rfl)
 have bo:=J.size;rw[nw]at bo;have ap:∀k,k<W.heap.size→k≠ge→W2.heap[k]? =W.heap[k]?:=fun k F ar=>by
  rw[J.block k (by rw[nw];omega) (by simpa using ar),rR _ _ _ F]
 have a8:∀k,k<W.heap.size→k≠ge→k≠I→(W2.setCell ⟨I,i*2+1,none⟩ (.slice a2 (e.L.length+1) c2)).heap[k]? =W.heap[k]?:=fun k F ar bp=>by
  rw[re _ _ _ _ (by exact bp)];exact ap k F ar
 have bs:bf≠I:=by
  rcases Y with q|q
  ·rw[q];exact fun G=>a7 G.symm
  ·rw[q];omega
 have bu:Below w.heap.size W W2:=⟨J.os,J.tape,J.output,by omega,fun k F=>ap k (nH F h.low.size) (by omega)⟩;refine⟨h.low.trans (bu.setCell (p:=⟨I,i*2+1,none⟩) bg _),?_,?_,?_,?_,?_,h.mlow⟩
 ·rw[List.length_set,TK E i ⟨e.n,a2,c2,e.L++[s]⟩ e O rfl,show(e.L++[s]).length=e.L.length+1 by simp]
  exact Xa (Hy h.row fun k F=>by
   simp[Value.ownBlock]at F;subst F;exact ap I bi a7) _ _
 ·intro f ay
  obtain⟨j,H⟩:=n5 ay;rw[rP]at H;split at H
  ·cases H
   ·show World.ownsRow _ _ _ _ (.slice a2 (e.L++[s]).length c2) (e.L++[s]).length (Dy (e.L++[s]))
    rw[Nz,show(e.L++[s]).length=e.L.length+1 by simp];exact Hy a1 fun k F=>by
     rw[ao]at F;simp[Value.ownBlock]at F;subst F;exact re _ _ _ _ (by exact bs)
  ·rename_i hij
   have Z:=h.each f (nE H);obtain⟨gf,R,bv,ba⟩:=Gd Z (ri.2 (h.ne f (nE H)));have bx:gf≠ge:=fun q=>h.apart j i f e H O (fun q=>hij q.symm) (by rw[R,Q,q]);have bA:gf≠I:=fun q=>by
    rcases Kc (show 134≠179 by decide) h.row Z with G|G
    ·cases G
    ·exact G (by rw[R];show some I=some gf;rw[q])
   refine Hy Z fun k F=>?_;rw[R]at F
   simp[Value.ownBlock]at F;subst F;exact a8 _ ba bx bA
 ·
  have bb:∀(j:Nat) f,E[j]? =some f→j≠i→f.a≠a2:=fun j f H bB G=>by
   have Z:=h.each f (nE H);obtain⟨gf,R,bv,ba⟩:=Gd Z (ri.2 (h.ne f (nE H)));rw[R,ao]at G;simp only[nV,rc]at G;rcases Y with q|q
   ·exact h.apart j i f e H O bB (by rw[R,Q];simp)
   ·omega
  intro p q f bd aa T bC;rw[rP]at aa T;split at aa
  ·rename_i G
   cases aa;split at T
   ·omega
   ·exact fun az=>bb q bd T (by omega) az.symm
  ·split at T
   ·cases T
    exact bb p f aa (by omega)
   ·exact h.apart p q f bd aa T bC
 ·intro f ay
  obtain⟨j,H⟩:=n5 ay;rw[rP]at H;split at H
  ·cases H;simp
  ·exact h.ne f (nE H)
 ·refine⟨D,?_,?_⟩
  ·rw[List.length_set]
   exact Nx ad (a8 V ad.lt bl bn)
  ·have G:(E.set i ⟨e.n,a2,c2,e.L++[s]⟩).map (·.n)=E.map (·.n):=by
    rw[List.map_set];apply List.ext_getElem?;intro j;rw[rP];split
    ·rename_i az
     subst az;obtain⟨bF,bG⟩:=ny.1 O;simp[bF,bG]
    ·rfl
   rw[G];exact bk
theorem Er.start{w W:World}{F:Nat}(H:Below w.heap.size w W)(I:w.heap.size≤F){D:DataW Unit}(J:W.ownsMap prog 9 (plainElem prog 3) F 0 D)(O:JM D []):Er w W F (.slice none 0 0) []:=
 ⟨H,rB _ _ _ _,fun e G=>(by cases G),fun i j e f Q=>(by simp at Q),fun e G=>(by cases G),⟨D,J,O⟩,I⟩
def Hn(c:AH)(d:Sp)(k:List Cy):Prop:=k.length=d.x.dirKs.length∧∀(j:Nat) p,d.x.dirKs[j]? =some p→∃(F G:Nat) (s:Sp),d.h.ak=some ⟨F,G,none⟩∧k[j]? =some (p.1,s)∧s.b=F∧s.p=G+j*9+1∧s.ly=d.ly∧s.x=p.2∧c ⟨F,G+j*9,none⟩=some (.string p.1)∧CB c s
theorem fi{c:AH}{d:Sp}(h:CB c d):∃k,Hn c d k:=by
 obtain⟨b,p,ly,⟨G,m,u,g,o,nh,H,ks⟩,hd⟩:=d;by_cases Q:G=2
 ·obtain⟨_,_,_,T⟩:=Cq.1 h.2
  have R:(Nd.mk G m u g o nh H ks).dirKs=ks:=nD Q;rcases T with e|⟨I,J,e,f,O⟩
  ·refine⟨[],?_⟩
   unfold Hn;rw[show(Sp.mk b p ly (.mk G m u g o nh H ks) hd).x.dirKs=ks from R,e];exact⟨rfl,fun j p F=>by simp at F⟩
  ·refine⟨ks.mapIdx fun j p=>(p.1,⟨I,J+j*9+1,ly,p.2,f j⟩),?_⟩
   unfold Hn;rw[show(Sp.mk b p ly (.mk G m u g o nh H ks) hd).x.dirKs=ks from R];refine⟨by simp,fun j q F=>⟨I,J,⟨I,J+j*9+1,ly,q.2,f j⟩,e,?_,rfl,rfl,rfl,rfl,(O j q.1 q.2 F).1.1,(O j q.1 q.2 F).1.2,(O j q.1 q.2 F).2⟩⟩;rw[List.getElem?_mapIdx,F];rfl
 ·refine⟨[],?_⟩
  unfold Hn;rw[show(Sp.mk b p ly (.mk G m u g o nh H ks) hd).x.dirKs=[]from nC Q];exact⟨rfl,fun j p F=>by simp at F⟩
theorem cV{c:AH}{D:List Sp}(G:∀d∈D,CB c d):∃K:List (List Cy),K.length=D.length∧∀(i:Nat) d,D[i]? =some d→∃k,K[i]? =some k∧Hn c d k:=by
 induction D with
 |nil=>exact⟨[],rfl,fun i d F=>by simp at F⟩
 |cons d D H=>
  obtain⟨K,I,J⟩:=H fun e O=>G e (n2 _ O);obtain⟨k,Q⟩:=fi (G d (nK ..))
  refine⟨k::K,by simp[I],fun i e F=>?_⟩;cases i with
  |zero=>simp at F;subst F;exact⟨k,rfl,Q⟩
  |succ i=>exact J i e (by simpa using F)
theorem aV{c:AH}{d:Sp}{k:List Cy}(h:Hn c d k)(nm:BA):(C8 nm k).map Sp.pr=(Dr nm d.x).map fun y=>(y,d.ly):=by
 rw[Ki];obtain⟨O,Q⟩:=h;generalize d.x.dirKs=ks at O Q;have R:∀(ks:Ar) (k:List Cy),k.length=ks.length→(∀(j:Nat) p,ks[j]? =some p→∃s:Sp,k[j]? =some (p.1,s)∧s.ly=d.ly∧s.x=p.2)→(C8 nm k).map Sp.pr=(Ee nm ks).map fun y=>(y,d.ly):=by
  intro ks;induction ks with
  |nil=>
   intro k F _;rw[nX F];rfl
  |cons p ks T=>
   intro k F G;cases k with
   |nil=>simp at F
   |cons q k=>
    obtain⟨s,H,I,J⟩:=G 0 p rfl;simp at H;subst H;rw[C8,Ee];split
    ·simp[Sp.pr,I,J]
    ·exact T k (by simpa using F) fun j V Y=>by
      obtain⟨Z,aa,ab⟩:=G (j+1) V (by simpa using Y);exact⟨Z,by simpa using aa,ab⟩
 exact R ks k O fun j p G=>by
  obtain⟨_,_,s,_,H,_,_,I,J,_⟩:=Q j p G;exact⟨s,H,I,J⟩
theorem dB{c:AH}{D:List Sp}{K:List (List Cy)}(F:K.length=D.length)(h:∀(i:Nat) d,D[i]? =some d→∃k,K[i]? =some k∧Hn c d k)(nm:BA):(Dt nm K []).map Sp.pr=Bz nm (D.map Sp.pr):=by
 unfold Dt Bz;show(K.filterMap (C8 nm)++[]).map Sp.pr=_;rw[rQ];induction D generalizing K with
 |nil=>rw[nX F];rfl
 |cons d D I=>
  cases K with
  |nil=>simp at F
  |cons k K=>
   obtain⟨Z,G,J⟩:=h 0 d rfl;simp at G;subst G;have H:=I (K:=K) (by simpa using F) fun i e O=>by
    obtain⟨Q,R,T⟩:=h (i+1) e (by simpa using O);exact⟨Q,by simpa using R,T⟩
   have V:=aV J nm;rw[rt,rh,rt];have Y:Option.map (fun y=>(y,d.pr.snd)) (Dr nm d.pr.fst)=(C8 nm k).map Sp.pr:=V.symm;rw[Y];cases C8 nm k with
   |none=>exact H
   |some s=>simp only[rh,r0];rw[H]
theorem YA{w:World}{d:Sp}(H:CB w.cell? d):∃G kc,(d.x.dirKs≠[]→G=d.h.ak)∧
 Calls prog 118 #[.agg #[pO d.b d.p,iN d.ly]] w fun e w'=>e=.returned (.slice G d.x.dirKs.length kc)∧Below w.heap.size w w':=by
 have h:=SI H;by_cases F:d.x.kind=2
 ·refine⟨d.h.ak,d.h.ck,fun _=>rfl,?_⟩
  rw[nD F]at h;have e:d.x.dirKs=d.x.kids:=nD F;rw[e];exact h
 ·refine⟨none,0,fun I=>absurd (nC F) I,?_⟩
  rw[nC F]at h;have e:d.x.dirKs=[]:=nC F;rw[e];exact h
def Cm(E:List Pe):Fx:=E.map Pe.pl
theorem fj(E:List Pe):(Cm E).map (·.1)=E.map (·.n):=by unfold Cm;rw[r4];rfl
theorem Ox{E:List Pe}{i:Nat}{e:Pe}(h:E[i]? =some e):(Cm E)[i]? =some (e.n,e.L):=by unfold Cm;rw[n4,h];rfl
theorem Uw(E:List Pe)(i:Nat)(e:Pe):Cm (E.set i e)=(Cm E).set i (e.n,e.L):=by unfold Cm;rw[List.map_set];rfl
theorem cT(E:List Pe)(e:Pe):Cm (E++[e])=Cm E++[(e.n,e.L)]:=by unfold Cm;rw[rA];rfl
theorem Tryz.infoP:(prog.info? 134).map (fun i=>(i.zero,i.size,i.bytes))=some (some (.agg #[.string ⟨#[]⟩,.slice none 0 0]),2,40):=by kernel_rfl
def DB:List Pe→Nat
 |[]=>0
 |e::r=>e.L.length+DB r
theorem Uu:∀(A:List Pe) (e:Pe),DB (A++[e])=DB A+e.L.length
 |[],e=>by simp[DB]
 |a::A,e=>by simp[DB,Uu A e];omega
theorem OI:∀{E:List Pe},(∀e∈E,e.L≠[])→E.length≤DB E
 |[],_=>nn _
 |e::E,h=>by
  have G:=OI fun f F=>h f (n2 _ F);have H:=ri.2 (h e (nK ..))
  simp[DB];omega
theorem Oj:∀{E:List Pe} {e:Pe},e∈E→e.L.length≤DB E
 |[],_,h=>by cases h
 |a::E,e,h=>by
  rcases nY.1 h with q|q
  ·rw[q];simp[DB]
  ·have:=Oj q;simp[DB];omega
theorem Uy:∀{E:List Pe} {i:Nat} {e F:Pe},E[i]? =some e→F.L.length=e.L.length+1→DB (E.set i F)=DB E+1
 |[],i,e,F,h,_=>by simp at h
 |a::E,0,e,F,h,k=>by simp at h;subst h;simp[DB,k];omega
 |a::E,i+1,e,F,h,k=>by have:=Uy (E:=E) (i:=i) (by simpa using h) k;simp[DB,this];omega
def kc(K:List (List Cy)):Nat:=(K.map List.length).sum
theorem dP(K:List (List Cy))(k:List Cy):kc (K++[k])=kc K+k.length:=by simp[kc]
theorem cv{K:List (List Cy)}{j:Nat}{k:List Cy}(h:K[j]? =some k):kc (K.take j)+k.length≤kc K:=by
 have e:=XM h;have F:kc K=kc (K.take j++k::K.drop (j+1)):=by rw[←e]
 rw[F];simp[kc]
theorem ez{c:AH}{D:List Sp}{K:List (List Cy)}(F:K.length=D.length)(h:∀(i:Nat) d,D[i]? =some d→∃k,K[i]? =some k∧Hn c d k):kc K≤tot (D.map Sp.pr):=by
 induction D generalizing K with
 |nil=>rw[nX F];exact nN _
 |cons d D H=>
  cases K with
  |nil=>simp at F
  |cons k K=>
   obtain⟨V,G,I⟩:=h 0 d rfl;simp at G;subst G;have J:=H (K:=K) (by simpa using F) fun i e O=>by
    obtain⟨Q,R,T⟩:=h (i+1) e (by simpa using O);exact⟨Q,by simpa using R,T⟩
   have Y:=I.1;have Z:=Ra d.x;have aa:=Gc d.x.dirKs;have ab:cnt d.pr.1=cnt d.x:=rfl;simp only[kc,rh,List.sum_cons,tot]at J⊢;omega
end Go.Proofs.YtofhphibahcniaaGreatDoor
namespace Go.Proofs.YtofhphibahcniaaGreatDoor
open Go.Shelf Go.Proofs.Tryz
def Tryz.sortL_ren:Go.Shelf.Ren:=⟨fun|6=>123|14=>159|15=>160|20=>182|21=>183|22=>184|23=>185|24=>186|25=>187|26=>188|27=>189|28=>190|29=>191|46=>200|47=>201|48=>202|49=>203|50=>204|57=>213|n=>n,fun|0=>0|3=>3|4=>4|5=>5|9=>9|22=>129|25=>189|39=>91|45=>234|46=>235|50=>170|53=>241|55=>243|66=>248|70=>252|76=>257|77=>211|24=>134|n=>n,fun n=>n⟩
theorem Tryz.sortL:Go.Proofs.SlLaysF0.n6 prog Tryz.sortL_ren:={
 mixed:=by kernel_rfl
 f6:=⟨ "slices.SortFunc[[]idshift/merge.place,idshift/merge.place]",by decide,func123.trans (nW some (by kernel_rfl))⟩
 f14:=⟨ "slices.pdqsortCmpFunc[idshift/merge.place]",by decide,func159.trans (nW some (by kernel_rfl))⟩
 f15:=func160.trans (nW some (by kernel_rfl))
 f20:=⟨ "slices.insertionSortCmpFunc[idshift/merge.place]",by decide,func182.trans (nW some (by kernel_rfl))⟩
 f21:=⟨ "slices.heapSortCmpFunc[idshift/merge.place]",by decide,func183.trans (nW some (by kernel_rfl))⟩
 f22:=⟨ "slices.breakPatternsCmpFunc[idshift/merge.place]",by decide,func184.trans (nW some (by kernel_rfl))⟩
 f23:=⟨ "slices.choosePivotCmpFunc[idshift/merge.place]",by decide,func185.trans (nW some (by kernel_rfl))⟩
 f24:=⟨ "slices.reverseRangeCmpFunc[idshift/merge.place]",by decide,func186.trans (nW some (by kernel_rfl))⟩
 f25:=⟨ "slices.partialInsertionSortCmpFunc[idshift/merge.place]",by decide,func187.trans (nW some (by kernel_rfl))⟩
 f26:=⟨ "slices.partitionEqualCmpFunc[idshift/merge.place]",by decide,func188.trans (nW some (by kernel_rfl))⟩
 f27:=⟨ "slices.partitionCmpFunc[idshift/merge.place]",by decide,func189.trans (nW some (by kernel_rfl))⟩
 f28:=func190.trans (nW some (by kernel_rfl))
 f29:=func191.trans (nW some (by kernel_rfl))
 f46:=⟨ "slices.siftDownCmpFunc[idshift/merge.place]",by decide,func200.trans (nW some (by kernel_rfl))⟩
 f47:=func201.trans (nW some (by kernel_rfl))
 f48:=func202.trans (nW some (by kernel_rfl))
 f49:=⟨ "slices.medianAdjacentCmpFunc[idshift/merge.place]",by decide,func203.trans (nW some (by kernel_rfl))⟩
 f50:=⟨ "slices.medianCmpFunc[idshift/merge.place]",by decide,func204.trans (nW some (by kernel_rfl))⟩
 f57:=⟨ "slices.order2CmpFunc[idshift/merge.place]",by decide,func213.trans (nW some (by kernel_rfl))⟩
 t0:=underlying0
 a0:=Tryz.isAgg0
 z0:=Tryz.sizeOf0
 v0:=Tryz.zeroValue0
 t3:=underlying3
 a3:=Tryz.isAgg3
 z3:=Tryz.sizeOf3
 v3:=Tryz.zeroValue3
 t4:=underlying4
 a4:=Tryz.isAgg4
 z4:=Tryz.sizeOf4
 v4:=Tryz.zeroValue4
 t5:=underlying5
 a5:=Tryz.isAgg5
 z5:=Tryz.sizeOf5
 v5:=Tryz.zeroValue5
 t9:=underlying9
 a9:=Tryz.isAgg9
 z9:=Tryz.sizeOf9
 v9:=Tryz.zeroValue9
 t22:=underlying129
 a22:=Tryz.isAgg129
 z22:=Tryz.sizeOf129
 v22:=Tryz.zeroValue129
 t25:=underlying189
 a25:=Tryz.isAgg189
 z25:=Tryz.sizeOf189
 v25:=Tryz.zeroValue189
 t39:=underlying91
 a39:=Tryz.isAgg91
 z39:=Tryz.sizeOf91
 v39:=Tryz.zeroValue91
 t45:=underlying234
 a45:=Tryz.isAgg234
 z45:=Tryz.sizeOf234
 v45:=Tryz.zeroValue234
 t46:=underlying235
 a46:=Tryz.isAgg235
 z46:=Tryz.sizeOf235
 v46:=Tryz.zeroValue235
 t50:=underlying170
 a50:=Tryz.isAgg170
 z50:=Tryz.sizeOf170
 v50:=Tryz.zeroValue170
 t53:=underlying241
 a53:=Tryz.isAgg241
 z53:=Tryz.sizeOf241
 v53:=Tryz.zeroValue241
 t55:=underlying243
 a55:=Tryz.isAgg243
 z55:=Tryz.sizeOf243
 v55:=Tryz.zeroValue243
 t66:=underlying248
 a66:=Tryz.isAgg248
 z66:=Tryz.sizeOf248
 v66:=Tryz.zeroValue248
 t70:=underlying252
 a70:=Tryz.isAgg252
 z70:=Tryz.sizeOf252
 v70:=Tryz.zeroValue252
 t76:=underlying257
 a76:=Tryz.isAgg257
 z76:=Tryz.sizeOf257
 v76:=Tryz.zeroValue257
 t77:=underlying211
 a77:=Tryz.isAgg211
 z77:=Tryz.sizeOf211
 v77:=Tryz.zeroValue211}
end Go.Proofs.YtofhphibahcniaaGreatDoor
