/-
  TopQuota: Ub Ida Nd Uf Mk Ml Wq Ws Wt Ne Zh Zn Ug.
-/
import Derived.Test.YtofhphibahcniaaGreatDoorApX
import Derived.Test.YtofhphibahcniaaGreatDoorWoX
import Derived.Test.YtofhphibahcniaaGreatDoorKcX
import Derived.Test.YtofhphibahcniaaGreatDoorMaX
import Derived.Test.YtofhphibahcniaaGreatDoorMcX
import Derived.Deep.RegionHeld3
import Derived.Deep.RegionLaw
import Derived.Deep.Cut
import Derived.Deep.CutRange
set_option maxRecDepth 100000
set_option maxHeartbeats 16000000
namespace Go.Proofs.YtofhphibahcniaaGreatDoor
open Go.RowKit Go.Proofs.Tryz
def Is(l:List (Nd×Nat)):Prop:=l.Pairwise fun a b=>a.2<b.2
theorem dJ(xs:List Nd):Is (BJ xs):=by
 unfold Is BJ;rw[rZ];intro i j G H F;simpa using F
theorem UQ:∀l:List (Nd×Nat),(Ey l).Sublist l
 |[]=>List.Sublist.refl _
 |t::r=>by
  rw[Ey];split
  ·exact List.nil_sublist _
  split
  ·exact List.Sublist.cons_cons _ (List.nil_sublist _)
  ·exact List.Sublist.cons_cons _ (UQ r)
theorem Mk(l:List (Nd×Nat)):(Bq l).Sublist l:=by
 cases l with
 |nil=>exact List.Sublist.refl _
 |cons t r=>
  rw[Bq];split
  ·exact List.Sublist.cons_cons _ (List.nil_sublist _)
  ·exact UQ _
theorem SK{nm:BA}:∀{l:List (Nd×Nat)},Is l→Is (Bz nm l)
 |[],_=>List.Pairwise.nil
 |t::r,h=>by
  have F:=rr.1 h;have G:=SK (nm:=nm) F.2;show Is ((t::r).filterMap _);rw[rt];cases Dr nm t.1 with
  |none=>exact G
  |some y=>
   refine rr.2 ⟨fun q H=>?_,G⟩;obtain⟨p,I,e⟩:=rC.1 H;obtain⟨z,_,rfl⟩:=n0.1 e;exact F.1 p I
theorem Zd(xs:List Nd):∀nf:List BA,Is (AI xs nf):=by
 intro nf;unfold AI;generalize F:Bq (BJ xs)=l;have G:Is l:=by rw[←F];exact(dJ xs).sublist (Mk _)
 clear F;induction nf generalizing l with
 |nil=>exact G
 |cons n r H=>rw[rK];exact H _ ((SK G).sublist (Mk _))
theorem Ln{l:List (Nd×Nat)}{q:Nd×Nat}{r:List (Nd×Nat)}(h:Bq l=q::r):(∃t,l=q::t)∧(q.1.kind=2∨q.1.kind=1∧r=[]):=by
 cases l with
 |nil=>cases h
 |cons t s=>
  rw[Bq]at h;by_cases F:t.1.kind=1
  ·rw[nD F]at h
   cases h;exact⟨⟨_,rfl⟩,.inr ⟨F,rfl⟩⟩
  ·rw[nC F,Ey]at h
   by_cases G:t.1.kind≠2
   ·rw[nD G]at h;cases h
   rw[nC G]at h;have H:t.1.kind=2:=by simpa using G
   split at h
   ·cases h;exact⟨⟨_,rfl⟩,.inl H⟩
   ·cases h;exact⟨⟨_,rfl⟩,.inl H⟩
theorem LV(nm:BA)(x:Nd):Dr nm x=if x.kind≠2 then none else fk nm x.kids:=by
 obtain⟨k,m,u,g,o,nh,d,ks⟩:=x;show _=if k≠2 then none else fk nm ks
 unfold Dr;by_cases F:k=2
 ·have G:Hl nm (.mk k m u g o nh d ks)=BD nm ks 0:=nD F
  rw[G,nC (show¬k≠2 from fun q=>q F)];rcases Hx nm ks 0 with⟨H,I⟩|⟨j,y,H,I,J,_⟩
  ·rw[H,I];rfl
  ·rw[H,J,nC (by omega),nU,Int.toNat_natCast]
   show(ks[j]?).map _=_;rw[I];rfl
 ·have G:Hl nm (.mk k m u g o nh d ks)=-1:=nC F
  rw[G,nD (show k≠2 from F)];rfl
theorem XK{l:List (Nd×Nat)}{nm:BA}{q H:Nd×Nat}{r Z:List (Nd×Nat)}{aa:List (Nd×Nat)}(Q:Bq aa=l)(R:Is l)(J:l=q::r)(ab:Bq (Bz nm l)=H::Z):
 q.1.kind=2∧(q.2≠0→H.2≠0)∧(q.2=0→H.2≠0→fk nm q.1.kids=none)∧(q.2=0→H.2=0→fk nm q.1.kids=some H.1):=by
 obtain⟨⟨t,F⟩,_⟩:=Ln ab;have T:q.1.kind=2:=by
  rw[J]at Q;rcases(Ln Q).2 with e|⟨e,rfl⟩
  ·exact e
  ·rw[J]at F
   have ad:Dr nm q.1=none:=by rw[LV,nD (by rw[e];decide)]
   have ak:Bz nm [q]=[]:=by
    show [q].filterMap _=[];rw[rt,ad];rfl
   rw[ak]at F;cases F
 have ao:Dr nm q.1=fk nm q.1.kids:=by rw[LV,nC (by simp[T])]
 rw[J]at R;have V:=rr.1 R;have O:H∈Bz nm l:=by rw[F];exact nK ..
 rw[J]at F O
 have G:Bz nm (q::r)=match fk nm q.1.kids with
  |none=>Bz nm r
  |some y=>(y,q.2)::Bz nm r:=by
  show(q::r).filterMap _=_;rw[rt,ao];cases fk nm q.1.kids<;>rfl
 refine⟨T,fun h=>?_,fun Y h=>?_,fun Y h=>?_⟩
 ·obtain⟨p,I,e⟩:=rC.1 O
  obtain⟨z,_,rfl⟩:=n0.1 e;rcases nY.1 I with rfl|I
  ·exact h
  ·have:=V.1 p I
   show p.2≠0;omega
 ·cases hf:fk nm q.1.kids with
  |none=>rfl
  |some y=>
   rw[hf]at G;rw[G]at F;cases F;exact absurd Y h
 ·cases hf:fk nm q.1.kids with
  |none=>
   rw[hf]at G;dsimp only at G;rw[G]at O;obtain⟨p,I,e⟩:=rC.1 O;obtain⟨z,_,rfl⟩:=n0.1 e;have:=V.1 p I;have ap:p.2=0:=h;omega
  |some y=>
   rw[hf]at G;rw[G]at F;cases F;rfl
def E5(us gs:List Rg)(xs:List Nd)(nf:List BA)(U:Nd):Nat→Except Int Nd
 |0=>.ok U
 |k+1=>match E5 us gs xs nf U k with
  |.error f=>.error f
  |.ok F=>match AI xs (nf.take (k+1))with
   |[]=>.ok F
   |q::_=>if q.2=0 then .ok F else match Bm true us gs (CP q.1)with
    |none=>.error 11
    |some x=>AV (some x) (nf.take (k+1)) F
def FT(xs:List Nd)(nf:List BA)(F:Nat→Nd×Nat):Prop:=∀i,i≤nf.length→∃r,AI xs (nf.take i)=F i::r
theorem bQ(xs:List Nd)(nf:List BA):∃F,Bq F=AI xs nf:=by
 rcases List.eq_nil_or_concat nf with rfl|⟨l,b,rfl⟩
 ·exact⟨_,rfl⟩
 ·unfold AI
  rw[List.concat_eq_append,List.foldl_append];exact⟨_,rfl⟩
theorem QT{xs:List Nd}{nf:List BA}{F:Nat→Nd×Nat}(h:FT xs nf F):(F 0).2=0∧xs[0]? =some (F 0).1:=by
 obtain⟨r,H⟩:=h 0 (nN _);have e:=H;obtain⟨⟨t,G⟩,_⟩:=Ln e;cases xs with
 |nil=>cases G
 |cons x xs=>
  have:BJ (x::xs)=(x,0)::xs.zipIdx 1:=rfl;rw[this]at G;have I:(x,0)=F 0:=by injection G
  rw[←I];exact⟨rfl,rfl⟩
theorem Hw{xs:List Nd}{nf:List BA}{F:Nat→Nd×Nat}(h:FT xs nf F){i:Nat}{nm:BA}(G:nf[i]? =some nm):
 (F i).1.kind=2∧((F i).2≠0→(F (i+1)).2≠0)∧((F i).2=0→(F (i+1)).2≠0→fk nm (F i).1.kids=none)∧((F i).2=0→(F (i+1)).2=0→fk nm (F i).1.kids=some (F (i+1)).1):=by
 have O:=(ny.1 G).1;obtain⟨r,I⟩:=h i (by omega);obtain⟨Q,H⟩:=h (i+1) (by omega);rw[Jm G]at H;obtain⟨R,J⟩:=bQ xs (nf.take i);exact XK J (Zd _ _) I H
theorem Hu{F:Type}{l:List F}{n:Nat}{x:F}(h:l[n]? =some x):l.take (n+1)=l.take n++[x]:=by rw[rv,h];rfl
theorem Lh{xs:List Nd}{nf:List BA}{F:Nat→Nd×Nat}(h:FT xs nf F):∀i,i≤nf.length→(∀j,j≤i→(F j).2=0)→BU (nf.take i) (F 0).1=some (F i).1
 |0,_,_=>rfl
 |i+1,hi,hz=>by
  have e:nf[i]? =some nf[i]:=nt (by omega);obtain⟨G,_,_,H⟩:=Hw h e;rw[Hu e,Ru,Lh h i (by omega) (fun j I=>hz j (by omega))];simp only[Option.bind_some];rw[nC (by simp[G])];exact H (hz i (by omega)) (hz (i+1) (nn _))
theorem LQ{us gs:List Rg}{xs:List Nd}{nf:List BA}{F:Nat→Nd×Nat}{U:Nd}(h:FT xs nf F):∀k,k≤nf.length→(∀j,j≤k→(F j).2=0)→E5 us gs xs nf U k=.ok U
 |0,_,_=>rfl
 |k+1,hk,hz=>by
  obtain⟨r,G⟩:=h (k+1) hk;rw[E5,LQ h k (by omega) (fun j H=>hz j (by omega)),G];dsimp only;rw[nD (hz (k+1) (nn _))]
theorem SX{us gs:List Rg}{xs:List Nd}{nf:List BA}{F:Nat→Nd×Nat}{U:Nd}(h:FT xs nf F){k:Nat}(H:k+1≤nf.length)(I:(F (k+1)).2≠0):E5 us gs xs nf U (k+1)=match E5 us gs xs nf U k with
 |.error f=>.error f
 |.ok G=>match Bm true us gs (CP (F (k+1)).1)with
  |none=>.error 11
  |some x=>AV (some x) (nf.take (k+1)) G:=by
 obtain⟨r,J⟩:=h (k+1) H;rw[E5,J];cases E5 us gs xs nf U k with
 |error f=>rfl
 |ok G=>dsimp only;rw[nC I]
def D9(F:Nat→Nd×Nat)(nf:List BA)(k n:Nat):List (Nd×BA):=(List.range' (k+1) n).map fun i=>(CP (F i).1,nf.getD (i-1) ⟨#[]⟩)
theorem Sk(F:Nat→Nd×Nat)(nf:List BA)(k n:Nat):D9 F nf k (n+1)=D9 F nf k n++[(CP (F (k+n+1)).1,nf.getD (k+n) ⟨#[]⟩)]:=by
 unfold D9;rw[List.range'_concat,rA];simp;rw[show k+1+n=k+n+1 by omega]
theorem VA{us gs:List Rg}{xs:List Nd}{nf:List BA}{F:Nat→Nd×Nat}(h:FT xs nf F){k:Nat}(Q:k<nf.length)(aa:∀j,j≤k→(F j).2=0)(ab:(F (k+1)).2≠0):
 ∀n,k+n+1≤nf.length→E5 us gs xs nf (F 0).1 (k+n+1)=match Cb us gs (D9 F nf k (n+1))with
  |.error f=>.error f
  |.ok L=>AV (some (Ct L)) (nf.take (k+1)) (F 0).1:=by
 have ao:∀n,k+n+1≤nf.length→(F (k+n+1)).2≠0:=by
  intro n;induction n with
  |zero=>exact fun _=>ab
  |succ n H=>
   intro I;have e:nf[k+n+1]? =some nf[k+n+1]:=nt (by omega);exact(Hw h e).2.1 (H (by omega))
 have R:=nt Q;have ad:=Lh h k (by omega) aa;have ak:=(Hw h R).1;have J:∀i (G:i<nf.length),nf.getD i ⟨#[]⟩=nf[i]:=fun i G=>by simp[G]
 intro n;induction n with
 |zero=>
  intro I;show E5 us gs xs nf (F 0).1 (k+1)=_;rw[SX h I ab,LQ h k (by omega) aa,Sk];rw[show D9 F nf k 0=[]from rfl];rw[J8];simp only[Cb,rT,J k Q];cases Bm true us gs (CP (F (k+1)).1)with
  |none=>rfl
  |some x=>
   dsimp only;by_cases T:AY nf[k]=false
   ·rw[nD T,Hu R,(Lw ad ak).1 T]
   ·rw[nC T];rfl
 |succ n H=>
  intro I;have H:=H (by omega);have ap:=ao (n+1) I;rw[SX h I ap,show k+(n+1)=k+n+1 from rfl,H,Sk F nf k (n+1),J8];cases hb:Cb us gs (D9 F nf k (n+1))with
  |error f=>rfl
  |ok L=>
   dsimp only;obtain⟨V,ar,ay⟩:=OL hb;have az:¬AY nf[k]=false:=by
    have e:=ar (CP (F (k+0+1)).1,nf.getD (k+0) ⟨#[]⟩) (by
     unfold D9;exact rx.2 ⟨k+1,by simp,by simp⟩)
    have e:AY (nf.getD k ⟨#[]⟩)=true:=e;rw[J k Q]at e;rw[e];simp
   have a1:=ay (fun p a6=>by
    obtain⟨i,G,rfl⟩:=rx.1 a6;rw[List.mem_range'_1]at G;have e:nf[i]? =some nf[i]:=nt (by omega);exact⟨(Yu _).trans (Hw h e).1,Nt _⟩)
   have a7:L≠[]:=fun e=>by
    rw[e]at V;have:=nW List.length V;simp[D9]at this
   obtain⟨r,Y⟩:=(Lw (x:=Ct L) ad ak).2 az;rw[←Hu R]at Y;rw[Y];dsimp only;cases Bm true us gs (CP (F (k+n+1+1)).1)with
   |none=>rfl
   |some x=>
    dsimp only;have Z:nf.take (k+(n+1)+1)=nf.take (k+1)++(L.tail.map Prod.snd++[nf[k+(n+1)]]):=by
     rw[List.map_tail,V];have e:(D9 F nf k (n+1)).map Prod.snd=(nf.drop k).take (n+1):=by
      unfold D9;rw[r4];refine List.ext_getElem? fun i=>?_;rw[n4,rL]
      by_cases G:i<n+1
      ·rw[nD G,rM,nt (l:=List.range' (k+1) (n+1)) (by simpa using G)]
       simp only[List.getElem_range',r0,Function.comp];rw[show k+1+1*i-1=k+i by omega,J (k+i) (by omega),nt (l:=nf) (by omega)]
      ·rw[nC G,List.getElem?_eq_none (by simpa using G)];rfl
     rw[e,←List.drop_one,List.drop_take,List.drop_drop,Nat.add_sub_cancel];rw[show nf.take (k+(n+1)+1)=nf.take (k+1)++(nf.drop (k+1)).take (n+1) by rw[←List.take_add,show k+1+(n+1)=k+(n+1)+1 by omega]];congr 1;have a8:(nf.drop (k+1))[n]? =some nf[k+(n+1)]:=by
      rw[rM,show k+1+n=k+(n+1) by omega];exact nt (by omega)
     rw[Hu a8]
    have Z:nf.take (k+n+1+1)=nf.take (k+1)++(L.tail.map Prod.snd++[nf[k+(n+1)]]):=Z;rw[Z,Q9 (by simp) Y,Rp a7 a1,J (k+(n+1)) (by omega)];by_cases O:AY nf[k+(n+1)]=false
    ·rw[nD O,nD O]
    ·rw[nC O,nC O]
mutual
def AP:Nd→Prop
 |.mk _ _ u g _ _ _ ks=>A2 u∧A2 g∧BO ks
def BO:List (BA×Nd)→Prop
 |[]=>True
 |(_,x)::l=>AP x∧BO l
end
theorem UG:∀{ks:List (BA×Nd)} {i:Nat} {n:BA} {x:Nd},BO ks→ks[i]? =some (n,x)→AP x
 |[],_,_,_,_,h=>by simp at h
 |(m,y)::l,0,n,x,hl,h=>by simp at h;rw[BO]at hl;rw[←h.2];exact hl.1
 |(m,y)::l,i+1,n,x,hl,h=>by rw[BO]at hl;exact UG hl.2 (by simpa using h)
theorem cX{x:Nd}(h:AP x):BO x.kids:=by
 obtain⟨k,m,u,g,o,nh,d,ks⟩:=x;rw[AP]at h;exact h.2.2
def EQ(l:List (Nd×Nat)):Prop:=∀q∈l,AP q.1
theorem EQ.kid{l:List (Nd×Nat)}(h:EQ l)(nm:BA):EQ (Bz nm l):=fun q G=>by
 obtain⟨p,H,e⟩:=rC.1 G;obtain⟨y,F,rfl⟩:=n0.1 e;have I:=h p H;unfold Dr at F;split at F
 ·cases F
 ·obtain⟨J,O,rfl⟩:=n0.1 F
  obtain⟨n,z⟩:=J;exact UG (cX I) O
theorem EQ.sh{l:List (Nd×Nat)}(h:EQ l):EQ (Bq l):=fun q F=>h q (H5 l q F)
theorem Zf{xs:List Nd}(h:EQ (BJ xs)):∀nf:List BA,EQ (AI xs nf):=by
 intro nf;unfold AI;generalize F:Bq (BJ xs)=l;have G:EQ l:=by rw[←F];exact h.sh
 clear F;induction nf generalizing l with
 |nil=>exact G
 |cons n r H=>rw[rK];exact H _ (G.kid n).sh
theorem Oc{m:BA}{z y:Nd}:∀{ks:Ar},fk m ks=some y→cntL (Cg m z ks)+cnt y=cntL ks+cnt z
 |[],h=>by cases h
 |(n,x)::l,h=>by
  rw[fk]at h;rw[Cg];by_cases e:n=m
  ·rw[nD e]at h⊢;simp only[nV]at h;subst h;rw[cntL,cntL];omega
  ·rw[nC e]at h⊢;have:=Oc (z:=z) h;rw[cntL,cntL];omega
theorem Tg(m:BA)(z:Nd):∀ks:Ar,cntL (C0 m z ks)=cntL ks+cnt z
 |[]=>by rw[C0];simp[cntL]
 |(n,x)::l=>by
  rw[C0];split
  ·rw[cntL,cntL];omega
  ·have:=Tg m z l;rw[cntL,cntL];omega
theorem Sd(m:BA):∀ks:Ar,cntL (Eo m ks)≤cntL ks
 |[]=>by rw[Eo];exact nn _
 |(n,x)::l=>by
  rw[Eo];split
  ·rw[cntL];omega
  ·have:=Sd m l;rw[cntL,cntL];omega
theorem NN(x:Nd)(ks:Ar):cnt (x.with ks)=cntL ks+1:=by obtain⟨k,m,u,g,o,nh,d,F⟩:=x;rfl
theorem IV(x:Nd):cnt x=cntL x.kids+1:=by obtain⟨k,m,u,g,o,nh,d,F⟩:=x;rfl
def Hi:Option Nd→Nat
 |none=>0
 |some x=>cnt x
theorem JE{c:Option Nd}(P:Nd→Nd→Prop)(G:∀m n ks,n.kind=2→EJ c m n.kids=.ok ks→P n (n.with ks))(H:∀m n y z,n.kind=2→fk m n.kids=some y→P y z→P n (n.with (Cg m z n.kids))):
 ∀{l:List BA} {n r:Nd},AV c l n=.ok r→P n r
 |[],n,r,h=>by rw[AV]at h;cases h
 |[m],n,r,h=>by
  rw[IP]at h;by_cases F:n.kind≠2
  ·rw[nD F]at h;cases h
  rw[nC F]at h;cases hl:EJ c m n.kids with
  |error f=>rw[hl]at h;cases h
  |ok ks=>
   rw[hl]at h;simp only[Except.map,rE]at h;subst h;exact G m n ks (by simpa using F) hl
 |m::I::l,n,r,h=>by
  rw[JG]at h;by_cases F:n.kind≠2
  ·rw[nD F]at h;cases h
  rw[nC F]at h;cases hf:fk m n.kids with
  |none=>rw[hf]at h;cases h
  |some y=>
   rw[hf]at h;simp only at h;cases hc:AV c (I::l) y with
   |error f=>rw[hc]at h;cases h
   |ok z=>
    rw[hc]at h;simp only[Except.map,rE]at h;subst h;exact H m n y z (by simpa using F) hf (JE P G H hc)
theorem JW{c:Option Nd}{m:BA}{ks G:Ar}(h:EJ c m ks=.ok G):(∃x,c=some x∧AY m=true∧((fk m ks=none∧G=C0 m x ks)∨(fk m ks≠none∧G=Cg m x ks)))∨(c=none∧fk m ks≠none∧G=Eo m ks):=by
 cases c with
 |some x=>
  left
  simp only[EJ]at h;by_cases F:AY m=false
  ·rw[nD F]at h;cases h
  rw[nC F]at h;simp only[rE]at h;refine⟨x,rfl,by simpa using F,?_⟩;by_cases H:fk m ks=none
  ·rw[nD H]at h;exact .inl ⟨H,h.symm⟩
  ·rw[nC H]at h;exact .inr ⟨H,h.symm⟩
 |none=>
  right
  simp only[EJ]at h;by_cases F:fk m ks=none
  ·rw[nD F]at h;cases h
  rw[nC F]at h;simp only[rE]at h;exact⟨rfl,F,h.symm⟩
theorem Kj{c:Option Nd}{l:List BA}{n r:Nd}(h:AV c l n=.ok r):cnt r≤cnt n+Hi c:=by
 refine JE (c:=c) (fun n r=>cnt r≤cnt n+Hi c) ?_ ?_ h
 ·intro m n ks _ G
  rw[NN,IV n];rcases JW G with⟨x,rfl,_,⟨_,rfl⟩|⟨F,rfl⟩⟩|⟨rfl,_,rfl⟩
  ·rw[Tg];show _≤_+cnt x;omega
  ·obtain⟨y,H⟩:=Option.ne_none_iff_exists'.1 F
   have:=Oc (z:=x) H;show _≤_+cnt x;omega
  ·have:=Sd m n.kids;omega
 ·intro m n y z _ F I
  have:=Oc (z:=z) F;rw[NN,IV n];omega
mutual
def Cu:Nd→Prop
 |.mk _ _ _ _ _ nh _ ks=>nh.length≤1000∧CG ks
def CG:Ar→Prop
 |[]=>True
 |(_,x)::l=>Cu x∧CG l
end
theorem OH{m:BA}{y:Nd}:∀{ks:Ar},CG ks→fk m ks=some y→Cu y
 |[],_,h=>by cases h
 |(n,x)::l,ha,h=>by
  rw[CG]at ha;rw[fk]at h;by_cases e:n=m
  ·rw[nD e]at h;simp only[nV]at h;subst h;exact ha.1
  ·rw[nC e]at h;exact OH ha.2 h
theorem NT{m:BA}{z:Nd}(F:Cu z):∀{ks:Ar},CG ks→CG (Cg m z ks)
 |[],_=>by rw[Cg,CG];trivial
 |(n,x)::l,ha=>by
  rw[CG]at ha;rw[Cg];split
  ·rw[CG];exact⟨F,ha.2⟩
  ·rw[CG];exact⟨ha.1,NT F ha.2⟩
theorem Tm{m:BA}{z:Nd}(F:Cu z):∀{ks:Ar},CG ks→CG (C0 m z ks)
 |[],_=>by rw[C0,CG,CG];exact⟨F,trivial⟩
 |(n,x)::l,ha=>by
  rw[C0];split
  ·rw[CG];exact⟨F,ha⟩
  ·rw[CG]at ha⊢;exact⟨ha.1,Tm F ha.2⟩
theorem SL{m:BA}:∀{ks:Ar},CG ks→CG (Eo m ks)
 |[],_=>by rw[Eo,CG];trivial
 |(n,x)::l,ha=>by
  rw[CG]at ha;rw[Eo];split
  ·exact ha.2
  ·rw[CG];exact⟨ha.1,SL ha.2⟩
theorem Ju{x:Nd}{ks:Ar}:Cu (x.with ks)↔Cu (x.with [])∧CG ks:=by
 obtain⟨k,m,u,g,o,nh,d,F⟩:=x;show Cu (.mk k m u g o nh d ks)↔Cu (.mk k m u g o nh d [])∧CG ks;rw[Cu,Cu,CG];exact⟨fun h=>⟨⟨h.1,trivial⟩,h.2⟩,fun h=>⟨h.1.1,h.2⟩⟩
theorem GD(x:Nd):x.with x.kids=x:=by obtain⟨k,m,u,g,o,nh,d,ks⟩:=x;rfl
theorem dW{c:Option Nd}{l:List BA}{n r:Nd}(h:AV c l n=.ok r)(G:∀x,c=some x→Cu x):Cu n→Cu r:=by
 refine JE (c:=c) (fun n r=>Cu n→Cu r) ?_ ?_ h
 ·intro m n ks _ H F
  rw[←GD n,Ju]at F;rw[Ju];refine⟨F.1,?_⟩;rcases JW H with⟨x,rfl,_,⟨_,rfl⟩|⟨_,rfl⟩⟩|⟨rfl,_,rfl⟩
  ·exact Tm (G x rfl) F.2
  ·exact NT (G x rfl) F.2
  ·exact SL F.2
 ·intro m n y z _ I J F
  rw[←GD n,Ju]at F;rw[Ju];exact⟨F.1,NT (J (OH F.2 I)) F.2⟩
mutual
theorem Vc:∀(x:Nd),Cu x→cnt x≤1000→Be x
 |.mk _ _ _ _ _ nh d ks,ha,hc=>by
  rw[cnt]at hc;rw[Cu]at ha;rw[Be];have:=Gc ks;exact⟨ha.1,by omega,UK ks ha.2 (by omega)⟩
theorem UK:∀(l:Ar),CG l→cntL l≤1000→DI l
 |[],_,_=>by rw[DI];trivial
 |(n,x)::l,ha,hc=>by
  rw[cntL]at hc;rw[CG]at ha;rw[DI];exact⟨Vc x ha.1 (by omega),UK l ha.2 (by omega)⟩
end
mutual
theorem Vw:∀(x:Nd),AB x→Cu x
 |.mk _ _ _ _ _ nh d ks,h=>by
  rw[AB]at h;rw[Cu];have F:=h.1.1;exact⟨by omega,U0 ks h.2.2⟩
theorem U0:∀(l:Ar),Bu l→CG l
 |[],_=>by rw[CG];trivial
 |(n,x)::l,h=>by rw[Bu]at h;rw[CG];exact⟨Vw x h.2.1,U0 l h.2.2⟩
end
theorem eV{x:Nd}(h:AP x):Ez x:=by
 obtain⟨k,m,u,g,o,nh,d,ks⟩:=x;rw[AP]at h;exact⟨h.1,h.2.1⟩
theorem bm{x:Nd}(h:Ez x):Ez (CP x):=by
 obtain⟨k,m,u,g,o,nh,d,ks⟩:=x;exact h
theorem Ya{xs:List Nd}{nf:List BA}{i:Nat}(_hi:i≤nf.length)(h:AI xs (nf.take i)=[]):AI xs nf=[]:=by
 have e:=(ry i nf).symm;unfold AI at h⊢;rw[e,List.foldl_append,h];generalize nf.drop i=r;induction r with
 |nil=>rfl
 |cons n r F=>rw[rK];exact F
theorem dH{xs:List Nd}{nf:List BA}(h:AI xs nf≠[]):∃H,FT xs nf H:=by
 have G:∀i,∃q:Nd×Nat,i≤nf.length→∃r,AI xs (nf.take i)=q::r:=fun i=>by
  by_cases F:i≤nf.length
  ·cases hs:AI xs (nf.take i)with
   |nil=>exact absurd (Ya F hs) h
   |cons q r=>exact⟨q,fun _=>⟨r,rfl⟩⟩
  ·exact⟨(zN,0),fun e=>absurd e F⟩
 exact⟨fun i=>Classical.choose (G i),fun i F=>rg (G i) F⟩
theorem AW.take{c:AH}{a:Option Addr}{l:List BA}(h:AW c a l)(n:Nat):AW c a (l.take n):=by
 rcases h with e|⟨b,G,e,h⟩
 ·subst e;exact .inl (by simp)
 ·refine .inr ⟨b,G,e,fun i s F=>h i s ?_⟩
  rw[rL]at F;split at F
  ·exact F
  ·cases F
theorem ex{F:Bool}{us gs:List Rg}{x y:Nd}(h:Bm F us gs x=some y):cnt y=cnt x:=by rw[IV,IV,(L3 h).2]
theorem SQ(x:Nd):cnt (CP x)=1:=by rw[IV,Nt];rfl
structure Fl where
 x:Nd
 h:Hd
 ly:Nat
theorem XM{F:Type}{l:List F}{n:Nat}{x:F}(h:l[n]? =some x):l=l.take n++x::l.drop (n+1):=by
 obtain⟨H,e⟩:=ny.1 h;have G:=nO H;rw[e]at G;rw[←G,ry]
def I2(bare:Bool)(nm:BA)(l:List (Nd×Nat)):List (Nd×Nat):=l.filterMap fun q=>if bare=true∧q.2=0 then none else(Dr nm q.1).map fun y=>(y,q.2)
def Kp(bare:Bool)(xs:List Nd)(nf:List BA)(i:Nat):List (Nd×Nat):=match i with
 |0=>Bq (BJ xs)
 |i+1=>match nf[i]? with
  |some nm=>Bq (I2 (bare&&decide (i+1=nf.length)) nm (Kp bare xs nf i))
  |none=>[]
theorem ZC(nm:BA)(l:List (Nd×Nat)):I2 false nm l=Bz nm l:=by
 unfold I2 Bz;simp
def FY(W G:World)(S:Nat→Bool)(e:Ending)(F:Except Int Nd):Prop:=(∃h',e=.returned (.tuple #[Al (DV F) h',Am (EK F)])∧Ah (Ag G.cell? S) (DV F) h')∧Below W.heap.size W G
theorem Kt(c:AH):Ah c zN zH:=Cq.2 ⟨.inl rfl,⟨nn _,by show(0:Nat)≤_;omega⟩,⟨nn _,by show(0:Nat)≤_;omega⟩,.inl rfl⟩
theorem Uj{y:Nd}{n:Nat}(h:cnt y≤n):y.kids.length≤n:=by
 have F:=Gc y.kids;have G:=Te y;omega
theorem Xj{f:Int}(h:f≠0):(.iface 78 (.int .i64 f):Value)=Am f:=(AG rfl h).symm
theorem Tp{W:World}{S:Nat→Bool}(fY:∀k,S k=true→k<W.heap.size){x0:Nd}{h:Hd}(f0:Ah (Ag W.cell? S) x0 h)(a:Option Addr)(cf:Nat)(l:List BA)(es:AW W.cell? a l)(gU:l.length≤1000)(gV:l.length≤cf∧cf≤9223372036854775807)(f1:cnt x0≤800){c:Option (Nd×Hd)}{C:Option Nd}(eu:c.map (·.1)=C){dg:FuncId}{dy:Array Value}{dz:Value→Value→Array Value}(f2:(dg=171∧dy=#[]∧dz=fun p q=>#[p,q])∨∃d0,dg=178∧dy=#[.pointer (some ⟨d0,0,none⟩)]∧dz=fun p q=>#[p,q,.pointer (some ⟨d0,0,none⟩)])
 (ev:∀(be:Option Addr) (ck:Nat) (L:BH) (nm:BA) (w':World),Below W.heap.size W w'→L.length≤900→L.length≤ck→ck≤9223372036854775807→Cv w'.cell? be L→Calls prog dg (dz (.slice be L.length ck) (.string nm)) w' fun e f3=>Kw c nm L w' f3 e) (eB:∀nm L M,Ep c nm L=.ok M→(∀e∈L,Ah (Ag W.cell? S) e.2.1 e.2.2)→∀e∈M,Ah (Ag W.cell? S) e.2.1 e.2.2) (eE:∀r,AV C l x0=.ok r→Be r∧cnt r≤1000):
 Calls prog 170 #[Al x0 h,.slice a l.length cf,.func (.func dg) #[] dy] W fun e f4=>FY W f4 S e (AV C l x0):=by
 have eL:=hid ev;have f5:=hid eB;have f7:=hid eu;clear ev eB eu;rcases f2 with⟨rfl,rfl,rfl⟩|⟨d0,rfl,rfl,rfl⟩
 all_goals
  dsimp only at eL;obtain⟨Z,b2⟩:∃Z,Hid (AV C l x0=Z):=⟨_,rfl⟩;have f8:Hid (∀r,Z=.ok r→Be r∧cnt r≤1000):=by rw[←b2.out];exact eE
  clear eE;obtain⟨k,m,u,g,o,nh,d,ks⟩:=x0;have d1:=Av.new W k m u g o nh d ks h;have dj:Below W.heap.size W (W.alloc (As k m u g o nh d ks h)):=(nv _ _).alloc (nn _) _;have b3:=Av.zero (W.alloc (As k m u g o nh d ks h));rw[nw]at b3;have d2:=d1.below ((nv _ _).alloc (nn _) AJ);have d3:Below W.heap.size W ((W.alloc (As k m u g o nh d ks h)).alloc AJ):=dj.alloc dj.size _;show Calls prog 170 #[(A5 k m u g o nh d ks h),.slice a l.length cf,_] _ _;rw[b2.out];by_cases dk:l=[]
  ·subst dk
   have T:Hid (Z=.error 7):=by show _=_;rw[←b2.out,AV]
   obtain⟨bg,ar,ay,az,a1,a6,a7,a8,ba⟩:(∀j,((W.alloc (As k m u g o nh d ks h)).alloc AJ).frozen? ⟨W.heap.size+1,j,none⟩=false)∧Ch ((W.alloc (As k m u g o nh d ks h)).alloc AJ) (W.heap.size+1) zN zH:=⟨b3.2,b3.1⟩;clear d1 dj d2 b3;go_enter func170,ntmps170;go_wp2;refine nG (v:=.tuple #[Al zN zH,Am 7]) (by simp[results,results170,go_sem,Al,zN,zH,Am]) rfl ⟨⟨zH,by rw[T.out];rfl,by rw[T.out];exact Kt _⟩,?_⟩;exact d3
  obtain⟨b,V,rfl,e0⟩:∃b V,a=some ⟨b,V,none⟩∧∀i s,l[i]? =some s→W.cell? ⟨b,V+i,none⟩=some (.string s):=by
   rcases es with e|e
   ·exact absurd e dk
   ·exact e
  have dm:=hid e0;obtain⟨n,e1⟩:∃n,l.length=n+1:=⟨l.length-1,by have:=ri.2 dk;omega⟩;have f9:=hid e1;have gW:n<l.length:=by omega
  have gX:n≤cf:=by omega
  have gY:n≤1000:=by omega
  have ga:IntKind.i64.wrap ((l.length:Int)-1)=(n:Int):=(EG (by omega) (by omega)).trans (by omega);have gb:(l.length:Int)-1=(n:Int):=by omega
  have gg:((l.length:Int)==0)=false:=by simp;omega
  have Y:Gj W ((W.alloc (As k m u g o nh d ks h)).alloc AJ) S W.heap.size (.mk k m u g o nh d ks) C l l W.heap.size 0 (.mk k m u g o nh d ks) h:=Gj.start d3 rfl b3 d2 fY f0;clear e0 es dk e1 d1 dj d2 b3 d3;go_enter func170,ntmps170;go_wp2;generalize(W.alloc (As k m u g o nh d ks h)).alloc AJ=gZ at Y⊢;generalize g0:W.heap.size=J at Y⊢;clear ga gb gg;go_loopw [27,8] (fun i v wr=>∃(j H I:Nat) (y:Nd) (F:Hd),j≤n∧i=.int .i64 j∧v=.pointer (some ⟨H,I,none⟩)∧Gj W wr S J (.mk k m u g o nh d ks) C l (l.drop j) H I y F∧cnt y≤800) (fun i _ _=>n-(intOf i).toNat)
  case atStart=>exact⟨0,J,0,_,h,nN _,rfl,rfl,Y,f1⟩
  case round=>
   obtain⟨j,H,I,y,F,g2,rfl,rfl,Y,e2⟩:=hrel;have e3:y.kids.length≤800:=Uj e2
   obtain⟨L,d4,d5⟩:=UT (show Ea (Ag W.cell? S) F.ak y.kids by
    have d6:=Y.tree;obtain⟨bn,d7,d8,d9,ea,eb,ec,G⟩:=y;exact(Cq.1 d6).2.2.2)
   have e4:y.kids.length=L.length:=by rw[←d4,E7]
   have e5:y.kids.length≤F.ck∧F.ck≤9223372036854775807:=by
    have d6:=Y.tree;obtain⟨bn,d7,d8,d9,ea,eb,ec,G⟩:=y;exact(Cq.1 d6).2.2.1
   have dn:=hid d4;have b4:=hid e4;have ed:Cv wr.cell? F.ak L:=(d5.on (Ci _ _)).on (Aj Y.low);have ee:=Y.res;have bo:=ee.store zN zH;have e6:Ao (J+1) wr (Au wr (J+1) zN zH):=Cz;have e7:=Y.low.trans (e6.below (B:=W.heap.size) (by omega) Y.low.size);obtain⟨⟨z0,bp,bs,z3,z4,z5,bu,bv⟩,bg⟩:=id ee;have e8:=Y.atc;have b5:=Y.fz;have ao:=hid Y;have bx:Hid (∀f,f≠0→Z=.error f→FY W (Au wr (J+1) zN zH) S (.returned (.tuple #[Al zN zH,Am f])) Z):=by
    intro f _ gl;rw[gl];exact⟨⟨zH,rfl,Kt _⟩,e7⟩
   generalize bb:Au wr (J+1) zN zH=g5 at bo bx;have b6:=hid bb;have ap:Below W.heap.size W wr:=Y.low;clear bb e6 e7 ee d4 e4 Y;by_cases g6:j<n;rotate_left
   ·
    have go:j=n:=by omega
    subst go;have gq:decide ((j:Int)<(j:Int))=false:=nB (by omega);obtain⟨nm,aa⟩:∃s,l[j]? =some s:=⟨l[j]'(by omega),nt _⟩;have cg:Hid (l.drop j=[nm]):=by
     show _=_;rw[nO (by omega),n7 (by have:=f9.out;omega)];rw[nt (by omega)]at aa;simp at aa;rw[aa]
    rw[cg.out]at ao;have c0:wr.cell? ⟨b,V+j,none⟩=some (.string nm):=(ap.cell (p:=⟨b,V+j,none⟩) (nz _ _ (dm.out j nm aa))).trans (dm.out j nm aa);have ch:Hid (∃ad:Nd→Nd,Z=(AV C [nm] y).map ad):=by
     obtain⟨ad,q,_⟩:=ao.out.wand;exact⟨ad,by rw[←b2.out];exact q⟩
    clear aa cg;obtain⟨bn,d7,d8,d9,ea,eb,ec,G⟩:=y;obtain⟨cl,co,cp,cr,cu,cx,c3,bi⟩:=e8;have g7:(j:Int)<(l.length:Int):=by omega
    by_cases bf:bn=2;rotate_left
    ·have ef:(bn !=2)=true:=bne_iff_ne.2 bf
     have T:Hid (Z=.error 7):=by
      obtain⟨ad,q⟩:=ch.out;show _=_;rw[q,AV,nD (by exact bf)];rfl
     clear bf;go_wp2;have bb:=b6.out;simp only[Au,zN,zH]at bb;simp only[nR]at bb;rw[bb];obtain⟨ar,ay,az,a1,a6,a7,a8,ba⟩:=bo.1;refine nG (v:=.tuple #[Al zN zH,Am 7]) (by simp[results,results170,go_sem,Al,zN,zH,Am,ar,ay,az,a1,a6,a7,a8,ba]) rfl (bx.out 7 (by decide) T.out)
    subst bf;have ef:((2:Int)!=2)=false:=rfl;have b7:Below wr.heap.size wr wr.drew:=rz (nv _ _) 1;have c4:=eL.out F.ak F.ck L nm wr.drew (ap.trans (b7.mono ap.size)) (by have:=b4.out;omega) (by have:=b4.out;have:=e5.1;omega) e5.2 (ed.on (Aj b7));rw[←b4.out]at c4;have c5:Hid (GM C nm G=match Ep c nm L with|.error f=>.error f|.ok M=>.ok (bare M)):=by
     have q:=ZO c nm L;rw[dn.out,f7.out]at q;exact q
    cases hA:Ep c nm L with
    |error f=>
     rw[hA]at c5;have c6:=c4.mono fun e w' (eg:Kw c nm L wr.drew w' e)=>show(f≠0∧e=.returned (.tuple #[.slice none 0 0,.iface 78 (.int .i64 f)]))∧Below wr.drew.heap.size wr.drew w' from by
      rcases eg with⟨q|⟨M,v,q,_⟩,hb⟩
      ·obtain⟨g8,q1,q2,c8⟩:=q
       rw[hA]at q1;simp only[rS]at q1;subst q1;exact⟨⟨q2,c8⟩,hb⟩
      ·rw[hA]at q;cases q
     have T:Hid (Z=.error f):=by
      obtain⟨ad,q⟩:=ch.out;show _=_;rw[q,AV,nC (by show¬(2:Int)≠2;simp)];show Except.map ad (Except.map _ (GM C nm G))=_;rw[c5.out];rfl
     have ab:wr.drew.cell? ⟨H,I+7,none⟩=some (.slice F.ak G.length F.ck)∧wr.drew.cell? ⟨b,V+j,none⟩=some (.string nm):=⟨bi,c0⟩;have c9:Hid _:=c6;clear hA c4 c6 c5;go_wp2;go_region_held3 (fun w'=>w'.cell? ⟨H,I+7,none⟩=some (.slice F.ak G.length F.ck)∧w'.cell? ⟨b,V+j,none⟩=some (.string nm)) (first|exact ab|exact b9) (first|((first|go_at_call 171|go_at_call 178);refine np c9.out ?_;rintro e O ⟨⟨gr,rfl⟩,ak⟩;have b9:O.cell? ⟨H,I+7,none⟩=some (.slice F.ak G.length F.ck)∧O.cell? ⟨b,V+j,none⟩=some (.string nm):=⟨(ak.cell (p:=⟨H,I+7,none⟩) (nz _ _ ab.1)).trans ab.1,(ak.cell (p:=⟨b,V+j,none⟩) (nz _ _ ab.2)).trans ab.2⟩))
     all_goals
      have Q:Below wr.heap.size wr O:=b7.trans ak;have da:=ao.out.res.below Q;have bA:=ap.trans (Q.mono ap.size);have bk:=da.store zN zH;have bd:Ao (J+1) O (Au O (J+1) zN zH):=Cz;have bl:=bA.trans (bd.below (B:=W.heap.size) (by omega) bA.size);generalize R:Au O (J+1) zN zH=e9 at bk bl;have db:=hid R;clear R bd cl co cp cr cu cx c3 bi z0 bp bs z3 z4 z5 bu bv bg c0 ak ab b9 ap bA b7 Q bo b6 bx c9 b5;obtain⟨⟨z0,bp,bs,z3,z4,z5,bu,bv⟩,bg⟩:=id da;go_wp2;have R:=db.out;simp only[Au,zN,zH,nR]at R;rw[R];obtain⟨ar,ay,az,a1,a6,a7,a8,ba⟩:=bk.1;refine nG (v:=.tuple #[Al zN zH,.iface 78 (.int .i64 f)]) (by simp[results,results170,go_sem,Al,zN,zH,ar,ay,az,a1,a6,a7,a8,ba]) rfl ⟨⟨zH,by rw[T.out,Xj gr];rfl,by rw[T.out];exact Kt _⟩,bl⟩
    |ok M=>
     rw[hA]at c5;have c6:=c4.mono fun e w' (eg:Kw c nm L wr.drew w' e)=>show(∃be ck,e=.returned (.tuple #[.slice be M.length ck,.nilIface])∧w'.ownsRow wr.heap.size 89 9 (.slice be M.length ck) M.length (Bn M))∧Below wr.drew.heap.size wr.drew w' from by
      rcases eg with⟨⟨f,q,_⟩|⟨M',v,q,rfl,q2⟩,hb⟩
      ·rw[hA]at q;cases q
      ·rw[hA]at q
       simp only[rE]at q;subst q;obtain⟨be,ck,dp,_⟩:=Df q2;subst dp;exact⟨⟨be,ck,rfl,q2⟩,hb⟩
     have gu:Hid (∀e∈M,Ah (Ag W.cell? S) e.2.1 e.2.2):=f5.out nm L M hA d5.2;have ab:wr.drew.cell? ⟨H,I+7,none⟩=some (.slice F.ak G.length F.ck)∧wr.drew.cell? ⟨b,V+j,none⟩=some (.string nm):=⟨bi,c0⟩;have c9:Hid _:=c6;clear hA c4 c6;go_wp2;go_region_held3 (fun w'=>w'.cell? ⟨H,I+7,none⟩=some (.slice F.ak G.length F.ck)∧w'.cell? ⟨b,V+j,none⟩=some (.string nm)) (first|exact ab|exact b9) (first|((first|go_at_call 171|go_at_call 178);refine np c9.out ?_;rintro e O ⟨⟨be,ck,rfl,bB⟩,ak⟩;have b9:O.cell? ⟨H,I+7,none⟩=some (.slice F.ak G.length F.ck)∧O.cell? ⟨b,V+j,none⟩=some (.string nm):=⟨(ak.cell (p:=⟨H,I+7,none⟩) (nz _ _ ab.1)).trans ab.1,(ak.cell (p:=⟨b,V+j,none⟩) (nz _ _ ab.2)).trans ab.2⟩))
     all_goals
      have Q:Below wr.heap.size wr O:=b7.trans ak;obtain⟨r,g9,q1,q2,c8,q4,q5⟩:=ao.out.fin Q (nn _) gu.out rfl c5.out rfl bB;have gv:O.frozen? ⟨H,I+7,none⟩=false:=(Q.frozen (p:=⟨H,I+7,none⟩) ao.out.atc.lt).trans (b5 _);have T:Hid (Z=.ok r):=by show _=_;rw[←b2.out];exact q1
      obtain⟨gw,gx⟩:=f8.out r T.out;have dd:=b9.1;clear q1 cl co cp cr cu cx c3 bi z0 bp bs z3 z4 z5 bu bv bg c0 ak ab b9 ap b7 Q bo b6 bx c9 b5 bB
      have fa:=ka (S:=FD J S) (fun k de=>by
       simp[FD]at de;rcases de with de|de
       ·have:=q5.1.lt;omega
       ·have:=ao.out.hS k de;have:=q4.size;omega) c8 gw gx
      have ej:Hid _:=fa;clear fa;generalize fb:O.setCell ⟨H,I+7,none⟩ (.slice be M.length ck)=cb at q2 c8 q4 q5 ej;have ha:=hid fb;obtain⟨bC,bF,u2,bG,bH,bY,b0,b1⟩:=r;obtain⟨x0,gy,gz,gC,gD,gE,gG,gH⟩:=id q2;go_wp2_with fail
      refine np ej.out ?_;rintro e cd ⟨⟨h',rfl,gI⟩,ek⟩;have fc:=q5.below ek;have ak:=q4.trans (ek.mono q4.size);have bk:=fc.store (.mk bC bF u2 bG bH bY b0 b1) h';have bd:Ao (J+1) cd (Au cd (J+1) (.mk bC bF u2 bG bH bY b0 b1) h'):=Cz;have bl:=ak.trans (bd.below (B:=W.heap.size) (by omega) ak.size);have step:AR (Ag cd.cell? (FD J S)) (Ag (Au cd (J+1) (.mk bC bF u2 bG bH bY b0 b1) h').cell? S):=BN fun q gJ fd=>⟨(Mj.1 fd).2,bd.block q gJ (Mj.1 fd).1⟩;have gK:Al (.mk bC bF u2 bG bH bY b0 b1) h'=(A5 bC bF u2 bG bH bY b0 b1 h'):=rfl
      rw[gK];generalize R:Au cd (J+1) (.mk bC bF u2 bG bH bY b0 b1) h'=e9 at bk bd bl step;have db:=hid R;clear R fb x0 gy gz gC gD gE gG gH ej q2 c8 q4 q5 ek gv dd bd;obtain⟨⟨z0,bp,bs,z3,z4,z5,bu,bv⟩,bg⟩:=id fc;go_wp2;have R:=db.out;simp only[Au]at R;rw[R];obtain⟨ar,ay,az,a1,a6,a7,a8,ba⟩:=bk.1;refine nG (v:=.tuple #[Al (.mk bC bF u2 bG bH bY b0 b1) h',.nilIface]) (by simp[results,results170,go_sem,Al,ar,ay,az,a1,a6,a7,a8,ba]) rfl ⟨⟨h',by rw[T.out];rfl,?_⟩,bl⟩;rw[T.out];exact gI.on step
   have gq:(j:Int)<(n:Int):=by omega
   obtain⟨nm,aa⟩:∃s,l[j]? =some s:=⟨l[j]'(by omega),nt _⟩;obtain⟨el,dr⟩:∃s,l[j+1]? =some s:=⟨l[j+1]'(by omega),nt _⟩;have fe:Hid (l.drop (j+1)=el::l.drop (j+2)):=by
    show _=_;rw[nO (by omega)];rw[nt (by omega)]at dr;simp at dr;rw[dr]
   have cg:Hid (l.drop j=nm::el::l.drop (j+2)):=by
    show _=_;rw[nO (by omega),fe.out];rw[nt (by omega)]at aa;simp at aa;rw[aa]
   rw[cg.out]at ao;have c0:wr.cell? ⟨b,V+j,none⟩=some (.string nm):=(ap.cell (p:=⟨b,V+j,none⟩) (nz _ _ (dm.out j nm aa))).trans (dm.out j nm aa);have ch:Hid (∃ad:Nd→Nd,Z=(AV C (nm::el::l.drop (j+2)) y).map ad):=by
    obtain⟨ad,q,_⟩:=ao.out.wand;exact⟨ad,by rw[←b2.out];exact q⟩
   clear aa dr cg;have ff:H<wr.heap.size:=ao.out.atc.lt;obtain⟨bn,d7,d8,d9,ea,eb,ec,G⟩:=y;obtain⟨cl,co,cp,cr,cu,cx,c3,bi⟩:=e8;by_cases bf:bn=2;rotate_left
   ·have ef:(bn !=2)=true:=bne_iff_ne.2 bf
    have T:Hid (Z=.error 7):=by
     obtain⟨ad,q⟩:=ch.out;show _=_;rw[q,AV,nD (by exact bf)];rfl
    clear bf;go_wp2;have bb:=b6.out;simp only[Au,zN,zH]at bb;simp only[nR]at bb;rw[bb];obtain⟨ar,ay,az,a1,a6,a7,a8,ba⟩:=bo.1;refine nG (v:=.tuple #[Al zN zH,Am 7]) (by simp[results,results170,go_sem,Al,zN,zH,Am,ar,ay,az,a1,a6,a7,a8,ba]) rfl (bx.out 7 (by decide) T.out)
   subst bf;have ef:((2:Int)!=2)=false:=rfl
   have fg:Calls prog 145 #[.slice F.ak G.length F.ck,.string nm] wr fun e w'=>e=.returned (.int .i64 (BD nm G 0))∧Below wr.heap.size wr w':=Lf F.ak F.ck G nm wr (by exact nP e3 (by decide)) (by
    have q:=IQ ed;rw[dn.out]at q;exact q)
   have ds:Hid _:=fg;clear fg;rcases IR nm G 0 with⟨em,_⟩|⟨p,z,en,hx,_⟩
   ·have du:Hid (BD nm G 0=-1):=em
    have T:Hid (Z=.error 5):=by
     obtain⟨ad,q⟩:=ch.out;show _=_;rw[q,AV,nC (by show¬(2:Int)≠2;simp),nD (by show BD nm G 0<0;rw[em];decide)];rfl
    clear em;go_wp2_with fail
    refine np ds.out ?_;rintro e O ⟨rfl,Q⟩;rw[du.out];have da:=ao.out.res.below Q;have bA:=ap.trans (Q.mono ap.size);have bk:=da.store zN zH;have bd:Ao (J+1) O (Au O (J+1) zN zH):=Cz;have bl:=bA.trans (bd.below (B:=W.heap.size) (by omega) bA.size);generalize R:Au O (J+1) zN zH=e9 at bk bl;have db:=hid R;clear R bd cl co cp cr cu cx c3 bi z0 bp bs z3 z4 z5 bu bv bg c0 ap bA Q bo b6 bx b5 ds;obtain⟨⟨z0,bp,bs,z3,z4,z5,bu,bv⟩,bg⟩:=id da;go_wp2;have R:=db.out;simp only[Au,zN,zH,nR]at R;rw[R];obtain⟨ar,ay,az,a1,a6,a7,a8,ba⟩:=bk.1;refine nG (v:=.tuple #[Al zN zH,.iface 78 (.int .i64 5)]) (by simp[results,results170,go_sem,Al,zN,zH,ar,ay,az,a1,a6,a7,a8,ba]) rfl ⟨⟨zH,by rw[T.out];rfl,by rw[T.out];exact Kt _⟩,bl⟩
   rw[nU]at en;have du:=hid en;have hc:p<G.length:=(ny.1 hx).1;have gL:cnt z≤800:=by
    have q1:=Jv hx;rw[cnt]at e2;omega
   obtain⟨⟨gM,fh,gN⟩,eo⟩:∃e,L[p]? =some e:=⟨L[p]'(by have:=b4.out;simp only[Nd.kids]at this;omega),nt _⟩;have gO:gM=nm∧fh=z:=by
    have q:=dn.out;have q2:(bare L)[p]? =some (nm,z):=by rw[q];exact hx
    unfold bare at q2;rw[n4,eo]at q2;simpa using q2
   obtain⟨rfl,rfl⟩:=gO;have gP:=hid eo;have gQ:L.length≤1000:=by rw[←b4.out];exact nP e3 (by decide)
   clear en hx eo;have he:decide ((p:Int)<0)=false:=nB (by omega);have hf:(p:Int)<(G.length:Int):=by omega
   go_wp2_with fail
   refine np ds.out ?_;rintro e O ⟨rfl,Q⟩;rw[du.out];have dd:O.cell? ⟨H,I+7,none⟩=some (.slice F.ak G.length F.ck):=(Q.cell (p:=⟨H,I+7,none⟩) ff).trans bi;have fl:=ed.on (Aj Q);have ep:=Qs F.ak F.ck L O gQ fl;have fr:L.length=G.length:=b4.out.symm;rw[fr]at ep;have fs:Hid _:=ep;clear ep fr cl co cp cr cu cx c3 bi z0 bp bs z3 z4 z5 bu bv bg c0 bo b6 bx ds fl;go_wp2_with fail
   refine np fs.out ?_;rintro e cb ⟨⟨v,rfl,bB⟩,eq⟩;obtain⟨a3,dw,dp,_,_,gR⟩:=Df bB;rcases gR with⟨_,q,_⟩|⟨g3,rfl,hg,_,_,_⟩
   ·omega
   rw[dp]at bB⊢;clear dp;have er:=Q.trans (eq.mono Q.size);have fv:cb.cell? ⟨H,I+7,none⟩=some (.slice F.ak G.length F.ck):=(eq.cell (p:=⟨H,I+7,none⟩) (nz _ _ dd)).trans dd;have gS:cb.frozen? ⟨H,I+7,none⟩=false:=(er.frozen (p:=⟨H,I+7,none⟩) ff).trans (b5 _);have dx:=ao.out.step er Q.size dn.out d5.2 rfl du.out gP.out bB;have fx:(cb.setCell ⟨H,I+7,none⟩ (.slice (some ⟨g3,0,none⟩) G.length dw)).cell? ⟨H,I+7,none⟩=some (.slice (some ⟨g3,0,none⟩) G.length dw):=nI _ _ _ fv;rw[←fe.out]at dx;change Gj W (cb.setCell ⟨H,I+7,none⟩ (.slice (some ⟨g3,0,none⟩) G.length dw)) S J _ _ _ _ _ _ _ _ at dx;generalize gT:cb.setCell ⟨H,I+7,none⟩ (.slice (some ⟨g3,0,none⟩) G.length dw)=cd at dx fx;clear bB Q eq er dd fs b5;go_wp2;clear gT fv fx gS;go_roundw
   case rel=>exact⟨j+1,g3,p*9+1,fh,gN,by omega,by go_num,by first|rfl|simp,dx,gL⟩
   case measure=>simp[intOf];omega
theorem Ww{W:World}{S:Nat→Bool}(H:∀k,S k=true→k<W.heap.size){x0:Nd}{h:Hd}(I:Ah (Ag W.cell? S) x0 h)(a:Option Addr)(G:Nat)(l:List BA)(J:AW W.cell? a l)(O:l.length≤1000)(Q:l.length≤G∧G≤9223372036854775807)(R:cnt x0≤800)(T:∀r,AV none l x0=.ok r→Be r∧cnt r≤1000):
 Calls prog 170 #[Al x0 h,.slice a l.length G,.func (.func 171) #[] #[]] W fun e V=>FY W V S e (AV none l x0):=by
 refine Tp H I a G l J O Q R (c:=none) rfl (.inl ⟨rfl,rfl,rfl⟩) (fun Y ck L nm w' _ ao Z aa ab=>Zs Y ck L nm w' (by omega) Z aa ab) (fun nm L M F ad e ak=>?_) T;simp only[Ep]at F;split at F
 ·cases F
 ·simp only[rE]at F
  subst F;exact ad e (dv ak)
theorem PO{W:World}{S:Nat→Bool}(R:∀k,S k=true→k<W.heap.size){x0:Nd}{h:Hd}(T:Ah (Ag W.cell? S) x0 h)(a:Option Addr)(H:Nat)(l:List BA)(V:AW W.cell? a l)(Y:l.length≤1000)(Z:l.length≤H∧H≤9223372036854775807)(aa:cnt x0≤800)(I:Nat)(F:Nd)(J:Hd)(ab:Ch W I F J)(O:Ah (Ag W.cell? S) F J)(ad:∀r,AV (some F) l x0=.ok r→Be r∧cnt r≤1000):
 Calls prog 170 #[Al x0 h,.slice a l.length H,.func (.func 178) #[] #[.pointer (some ⟨I,0,none⟩)]] W fun e ak=>FY W ak S e (AV (some F) l x0):=by
 refine Tp R T a H l V Y Z aa (c:=some (F,J)) rfl (.inr ⟨I,rfl,rfl,rfl⟩) (fun ao ck L nm w' Q ap ar ay az=>ZG ao ck I F J L nm w' ap ar ay az (ab.below Q) ((O.on (Ci _ _)).ab Q)) (fun nm L M G a1 e a6=>?_) ad;simp only[Ep]at G;split at G
 ·cases G
 ·simp only[rE]at G
  subst G;rcases cy a6 with q|q
  ·rw[q];exact O
  ·exact a1 e q
def MP(W G:World)(e:Ending)(F:Except Int Nd):Prop:=(∃h',e=.returned (.tuple #[Al (DV F) h',Am (EK F)])∧Ah G.cell? (DV F) h')∧Below W.heap.size W G
theorem ZQ{W:World}{x0:Nd}{h:Hd}(a6:Ah W.cell? x0 h)(a:Option Addr)(R:Nat)(l:List BA)(a7:AW W.cell? a l)(bu:l.length≤1000)(bv:l.length≤R∧R≤9223372036854775807)(bx:cnt x0≤800)(a8:∀r,AV none l x0=.ok r→Be r∧cnt r≤1000):
 Calls prog 140 #[Al x0 h,.slice a l.length R] W fun e ao=>MP W ao e (AV none l x0):=by
 obtain⟨ap,ba⟩:=AQ (AV none l x0);obtain⟨k,m,u,g,o,nh,d,ks⟩:=x0;have bb:=Av.new W k m u g o nh d ks h;have ar:Below W.heap.size W (W.alloc (As k m u g o nh d ks h)):=bN;have ab:=Av.zero (W.alloc (As k m u g o nh d ks h));rw[nw]at ab;have q2:=(nv _ (W.alloc (As k m u g o nh d ks h))).alloc (nn _) AJ;have bd:=bb.below q2;have T:Below W.heap.size W ((W.alloc (As k m u g o nh d ks h)).alloc AJ):=ar.alloc ar.size _;have be:AR W.cell? (Ag ((W.alloc (As k m u g o nh d ks h)).alloc AJ).cell? (fun q=>q==(W.heap.size+1))):=NO T (fun q V=>by simp;omega);have bf:cL 170 #[Al (.mk k m u g o nh d ks) h,.slice a l.length R,.func (.func 171) #[] #[]] ((W.alloc (As k m u g o nh d ks h)).alloc AJ) fun e ao=>FY ((W.alloc (As k m u g o nh d ks h)).alloc AJ) ao (fun q=>q==(W.heap.size+1)) e ap:=by
  rw[←ba.out];exact Ww (S:=fun q=>q==(W.heap.size+1)) (fun q V=>by simp at V;rw[V];exact ab.1.lt) (a6.on be) a R l (a7.on (Aj T)) bu bv bx a8
 have bg:Hid _:=bf;rw[ba.out];show cL 140 #[(A5 k m u g o nh d ks h),.slice a l.length R] _ _;obtain⟨⟨bA,bB,bC,bF,bG,bH,bY,b0⟩,b1⟩:=id bd;clear bf a8 be a7 a6;go_enter func140,ntmps140;go_wp2_with fail
 refine np bg.out ?_;rintro e Y ⟨⟨h',rfl,ad⟩,ay⟩;have az:=ab.below ay;have bi:=T.trans (ay.mono T.size);clear bA bB bC bF bG bH bY b0 b1 bg bb bd ab ar T ay q2;generalize ch:(W.heap.size+1)=Z at az ad⊢;generalize bk:DV ap=r at ad⊢;have bl:=hid bk;clear bk;obtain⟨F,G,u2,H,I,J,O,Q⟩:=r;have bn:=az.store (.mk F G u2 H I J O Q) h';have a1:Ao Z Y (Au Y Z (.mk F G u2 H I J O Q) h'):=Cz;have bo:=bi.trans (a1.below (B:=W.heap.size) (by omega) bi.size);have step:AR (Ag Y.cell? (fun q=>q==Z)) (Au Y Z (.mk F G u2 H I J O Q) h').cell?:=(BN (S':=fun _=>false) fun q V b2=>⟨rfl,a1.block q V (by simpa using b2)⟩).trans (Ci _ _);have bp:=ad.on step;generalize aa:Au Y Z (.mk F G u2 H I J O Q) h'=cl at bn bo bp;have b3:=hid aa;have ak:Al (.mk F G u2 H I J O Q) h'=(A5 F G u2 H I J O Q h'):=rfl;rw[ak];obtain⟨⟨z0,co,cp,z3,z4,z5,cr,cu⟩,cx⟩:=id az;clear aa step a1 ad ak;generalize bs:Am (EK ap)=ak;have b4:=hid bs;clear bs;go_wp2;have aa:=b3.out;simp only[Au]at aa;rw[aa];obtain⟨b5,b6,b7,b9,cb,cd,cf,cg⟩:=bn.1;refine nG (v:=.tuple #[Al (.mk F G u2 H I J O Q) h',ak]) (by simp[results,results140,go_sem,Al,b5,b6,b7,b9,cb,cd,cf,cg]) rfl ⟨⟨h',by rw[bl.out,b4.out],by rw[bl.out];exact bp⟩,bo⟩
theorem bD{W:World}{x0:Nd}{h:Hd}(bn:Ah W.cell? x0 h)(a:Option Addr)(ak:Nat)(l:List BA)(bo:AW W.cell? a l)(b3:l.length≤1000)(b4:l.length≤ak∧ak≤9223372036854775807)(b5:cnt x0≤800)(ao:Nd)(hx:Hd)(bp:Ah W.cell? ao hx)(bs:∀r,AV (some ao) l x0=.ok r→Be r∧cnt r≤1000):
 Calls prog 147 #[Al x0 h,.slice a l.length ak,Al ao hx] W fun e ba=>MP W ba e (AV (some ao) l x0):=by
 obtain⟨bb,bu⟩:=AQ (AV (some ao) l x0);obtain⟨F,G,H,I,J,O,Q,R⟩:=ao;obtain⟨k,m,u,g,o,nh,d,ks⟩:=x0;have bv:=Av.new W k m u g o nh d ks h;have bd:Below W.heap.size W (W.alloc (As k m u g o nh d ks h)):=bN;have be:=Av.new (W.alloc (As k m u g o nh d ks h)) F G H I J O Q R hx;rw[nw]at be;have bf:Below W.heap.size W ((W.alloc (As k m u g o nh d ks h)).alloc (As F G H I J O Q R hx)):=bd.alloc bd.size _;have a6:=Av.zero ((W.alloc (As k m u g o nh d ks h)).alloc (As F G H I J O Q R hx));rw[nw,nw]at a6;have q1:=(nv _ (W.alloc (As k m u g o nh d ks h))).alloc (nn _) (As F G H I J O Q R hx);have q2:=(nv _ ((W.alloc (As k m u g o nh d ks h)).alloc (As F G H I J O Q R hx))).alloc (nn _) AJ;have bx:=(bv.below q1).below q2;have bA:=be.below q2;have ap:Below W.heap.size W (((W.alloc (As k m u g o nh d ks h)).alloc (As F G H I J O Q R hx)).alloc AJ):=bf.alloc bf.size _;have bg:AR W.cell? (Ag (((W.alloc (As k m u g o nh d ks h)).alloc (As F G H I J O Q R hx)).alloc AJ).cell? (fun q=>q==(W.heap.size+1+1))):=NO ap (fun q ar=>by simp;omega);have bB:cL 170 #[Al (.mk k m u g o nh d ks) h,.slice a l.length ak,.func (.func 178) #[] #[pO (W.heap.size+1) 0]] (((W.alloc (As k m u g o nh d ks h)).alloc (As F G H I J O Q R hx)).alloc AJ) fun e ba=>FY (((W.alloc (As k m u g o nh d ks h)).alloc (As F G H I J O Q R hx)).alloc AJ) ba (fun q=>q==(W.heap.size+1+1)) e bb:=by
  rw[←bu.out];exact PO (S:=fun q=>q==(W.heap.size+1+1)) (fun q ar=>by simp at ar;rw[ar];exact a6.1.lt) (bn.on bg) a ak l (bo.on (Aj ap)) b3 b4 b5 (W.heap.size+1) (.mk F G H I J O Q R) hx bA.1 (bp.on bg) bs
 have bC:Hid _:=bB;rw[bu.out];show cL 147 #[(A5 k m u g o nh d ks h),.slice a l.length ak,(A5 F G H I J O Q R hx)] _ _;obtain⟨⟨b6,b7,b9,cb,cd,cf,cg,ch⟩,cl⟩:=id bx;clear bB bs bg bo bn;go_enter func147,ntmps147;go_wp2_with fail
 refine np bC.out ?_;rintro e ay ⟨⟨h',rfl,a7⟩,bi⟩;have bk:=a6.below bi;have bF:=ap.trans (bi.mono ap.size);clear b6 b7 b9 cb cd cf cg ch cl bC bv bx a6 bd ap bi q2 be bA bf q1 bp;generalize da:(W.heap.size+1+1)=az at bk a7⊢;generalize bG:DV bb=r at a7⊢;have bH:=hid bG;clear bG;obtain⟨T,V,u2,Y,Z,aa,ab,ad⟩:=r;have bY:=bk.store (.mk T V u2 Y Z aa ab ad) h';have bl:Ao az ay (Au ay az (.mk T V u2 Y Z aa ab ad) h'):=Cz;have b0:=bF.trans (bl.below (B:=W.heap.size) (by omega) bF.size);have step:AR (Ag ay.cell? (fun q=>q==az)) (Au ay az (.mk T V u2 Y Z aa ab ad) h').cell?:=(BN (S':=fun _=>false) fun q ar co=>⟨rfl,bl.block q ar (by simpa using co)⟩).trans (Ci _ _);have b1:=a7.on step;generalize a1:Au ay az (.mk T V u2 Y Z aa ab ad) h'=db at bY b0 b1;have cp:=hid a1;have a8:Al (.mk T V u2 Y Z aa ab ad) h'=(A5 T V u2 Y Z aa ab ad h'):=rfl;rw[a8];obtain⟨⟨z0,dd,de,z3,z4,z5,dg,dj⟩,dk⟩:=id bk;clear a1 step bl a7 a8;generalize b2:Am (EK bb)=a8;have cr:=hid b2;clear b2;go_wp2;have a1:=cp.out;simp only[Au]at a1;rw[a1];obtain⟨cu,cx,c3,c4,c5,c6,c8,c9⟩:=bY.1;refine nG (v:=.tuple #[Al (.mk T V u2 Y Z aa ab ad) h',a8]) (by simp[results,results147,go_sem,Al,cu,cx,c3,c4,c5,c6,c8,c9]) rfl ⟨⟨h',by rw[bH.out,cr.out],by rw[bH.out];exact b1⟩,b0⟩
theorem Lb{W:World}{x0:Nd}{h:Hd}(c3:Ah W.cell? x0 h)(a:Option Addr)(c4:Nat)(l:List BA)(c5:AW W.cell? a l)(ff:l.length≤1000)(em:cnt x0≤800)(en:Be x0):
 Calls prog 96 #[Al x0 h,.slice a l.length c4] W fun e c6=>(∃h',e=.returned (.tuple #[Al ((BU l x0).getD zN) h',.bool (BU l x0).isSome])∧Ah c6.cell? ((BU l x0).getD zN) h')∧Below W.heap.size W c6:=by
 obtain⟨O,c8⟩:=AQ (BU l x0);rw[c8.out];have c9:Hid (∀i s,l[i]? =some s→∃b ao,a=some (aD b ao)∧Ce W b (ao+i) (.string s)):=by
  intro i s b6;rcases c5 with e|⟨b,ao,e,eo⟩
  ·rw[e]at b6;simp at b6
  ·exact⟨b,ao,e,eo i s b6⟩
 clear c5;have ep:=hid c3;obtain⟨k,m,u,g,o,nh,d,ks⟩:=x0;have da:=Av.new W k m u g o nh d ks h;have b7:Below W.heap.size W (W.alloc (As k m u g o nh d ks h)):=bN;have bl:=Av.zero (W.alloc (As k m u g o nh d ks h));rw[nw]at bl;have q2:=(nv _ (W.alloc (As k m u g o nh d ks h))).alloc (nn _) AJ;have b3:=da.below q2;have b9:Below W.heap.size W ((W.alloc (As k m u g o nh d ks h)).alloc AJ):=b7.alloc b7.size _;show cL 96 #[(A5 k m u g o nh d ks h),.slice a l.length c4] _ _;have db:a=none→l=[]:=by
  intro e;cases hl:l with
  |nil=>rfl
  |cons s t=>
   obtain⟨b,ao,q,_⟩:=c9.out 0 s (by rw[hl];rfl);rw[e]at q;cases q
 have fg:=hid db;clear da b7 q2 c3 db;go_enter func96,ntmps96;go_wp2;generalize(W.alloc (As k m u g o nh d ks h)).alloc AJ=fh at b3 bl b9⊢;generalize fl:W.heap.size=G at b3 bl⊢;go_loopw [11] (fun i wr=>∃(j:Nat) (y:Nd) (bn:Hd),j≤l.length∧i=iN j∧Hid (O=BU (l.drop j) y)∧Av wr G y bn∧Av wr (G+1) zN zH∧Ah W.cell? y bn∧cnt y≤800∧Be y∧Below W.heap.size W wr) (fun i _=>l.length-(intOf i).toNat)
 case atStart=>exact⟨0,_,h,nN _,rfl,c8.out.symm,b3,bl,ep.out,em,en,b9⟩
 case round=>
  obtain⟨j,y,bn,fr,rfl,cb,ar,ap,dd,de,cd,Q⟩:=hrel;have eq:=Uj de;clear b3 bl b9;by_cases dg:j<l.length;rotate_left
  ·have er:decide ((j:Int)<(l.length:Int))=false:=nB (by omega)
   have bd:Hid (O=some y):=by show _=_;rw[cb.out,n7 (by omega),BU]
   have dj:=ka (W:=wr) (S:=fun q=>q==G+1) (fun q bo=>by simp at bo;rw[bo];exact ap.1.lt) (dd.on (NO Q (fun q bo=>by simp;omega))) cd (by omega);have dk:Hid _:=dj;clear dj;obtain⟨ay,az,u2,a1,a6,a7,a8,ba⟩:=y;obtain⟨⟨T,V,Y,Z,aa,ab,ad,R⟩,ak⟩:=id ar;go_wp2_with fail
   refine np dk.out ?_;rintro e bp ⟨⟨h',rfl,dm⟩,cf⟩;have dn:=ap.below cf;have dp:=Q.trans (cf.mono Q.size);have be:=dn.store (.mk ay az u2 a1 a6 a7 a8 ba) h';have bf:Ao (G+1) bp (Au bp (G+1) (.mk ay az u2 a1 a6 a7 a8 ba) h'):=Cz;have dr:=dp.trans (bf.below (B:=W.heap.size) (by omega) dp.size);have step:AR (Ag bp.cell? (fun q=>q==G+1)) (Au bp (G+1) (.mk ay az u2 a1 a6 a7 a8 ba) h').cell?:=(BN (S':=fun _=>false) fun q bo es=>⟨rfl,bf.block q bo (by simpa using es)⟩).trans (Ci _ _);have ds:=dm.on step;have du:Al (.mk ay az u2 a1 a6 a7 a8 ba) h'=(A5 ay az u2 a1 a6 a7 a8 ba h'):=rfl;rw[du];generalize F:Au bp (G+1) (.mk ay az u2 a1 a6 a7 a8 ba) h'=bb at be bf dr step ds;have bs:=hid F;clear F T V Y Z aa ab ad R ak dk cf bf step dm du ar ap;obtain⟨⟨z0,dw,dx,z3,z4,z5,dy,dz⟩,d0⟩:=id dn;go_wp2;have F:=bs.out;simp only[Au]at F;rw[F];obtain⟨bu,bv,bx,bA,bB,bC,bF,bG⟩:=be.1;refine nG (v:=.tuple #[Al (.mk ay az u2 a1 a6 a7 a8 ba) h',.bool true]) (by simp[results,results96,go_sem,Al,bu,bv,bx,bA,bB,bC,bF,bG]) rfl ⟨⟨h',by rw[bd.out];rfl,by rw[bd.out];exact ds⟩,dr⟩
  have er:(j:Int)<(l.length:Int):=by omega
  obtain⟨nm,bH⟩:∃s,l[j]? =some s:=⟨l[j],nt _⟩;obtain⟨b,ao,rfl,cg⟩:=c9.out j nm bH;have c0:Ce wr b (ao+j) (.string nm):=(Q.cell (p:=(aD b (ao+j))) (bL cg)).trans cg;have ch:Hid (O=if y.kind≠2∨BD nm y.kids 0<0 then none else BU (l.drop (j+1)) (y.kid (BD nm y.kids 0).toNat)):=by
   show _=_;have e:l.drop j=nm::l.drop (j+1):=by
    rw[nO dg];rw[nt dg]at bH;simp at bH;rw[bH]
   rw[cb.out,e,BU]
  clear bH cg cb;obtain⟨d1,d2,d3,d4,d5,d6,d7,J⟩:=y;have d8:=(Cq.1 dd).2.2.2;have d9:=Lf bn.ak bn.ck J nm wr (by exact nP eq (by decide)) (d8.below Q);have bg:Hid _:=d9;clear d9;have bY:Hid (∀I,Below wr.heap.size wr I→O=none→∃bb,Au I (G+1) zN zH=bb∧Av bb (G+1) zN zH∧((∃h',(Ending.returned (.tuple #[Al zN zH,.bool false]))=.returned (.tuple #[Al (O.getD zN) h',.bool O.isSome])∧Ah bb.cell? (O.getD zN) h')∧Below W.heap.size W bb)):=by
   intro I H ea;have eu:=ap.below H;have eb:=Q.trans (H.mono Q.size);have bf:Ao (G+1) I (Au I (G+1) zN zH):=Cz;refine⟨_,rfl,eu.store zN zH,⟨zH,by rw[ea];rfl,by rw[ea];exact Kt _⟩,eb.trans (bf.below (B:=W.heap.size) (by omega) eb.size)⟩
  obtain⟨⟨T,V,Y,Z,aa,ab,ad,R⟩,ak⟩:=id ar;by_cases b4:d1=2;rotate_left
  ·have ev:(d1 !=2)=true:=bne_iff_ne.2 b4
   have bd:Hid (O=none):=by show _=_;rw[ch.out,nD (.inl (by exact b4))]
   obtain⟨fs,eB⟩:=AQ (BD nm J 0);clear b4;go_wp2_with fail
   refine np bg.out ?_;rintro e I ⟨rfl,H⟩;rw[eB.out];obtain⟨bb,F,be,b0⟩:=bY.out I H bd.out;have bs:=hid F;have cl:Hid _:=b0;have bi:=ar.below H;have b1:=ap.below H;clear F b0 T V Y Z aa ab ad R ak c0 bg bY;obtain⟨⟨T,V,Y,Z,aa,ab,ad,R⟩,ak⟩:=id bi;obtain⟨⟨z0,dw,dx,z3,z4,z5,dy,dz⟩,d0⟩:=id b1;go_wp2;have F:=bs.out;simp only[Au,zN,zH,nR]at F;rw[F];obtain⟨bu,bv,bx,bA,bB,bC,bF,bG⟩:=be.1;refine nG (v:=.tuple #[Al zN zH,.bool false]) (by simp[results,results96,go_sem,Al,zN,zH,bu,bv,bx,bA,bB,bC,bF,bG]) rfl cl.out
  subst b4;have ev:((2:Int)!=2)=false:=rfl;rcases IR nm J 0 with⟨co,_⟩|⟨p,z,b2,hx,_⟩
  ·have cp:Hid (BD nm J 0=-1):=co
   have bd:Hid (O=none):=by show _=_;rw[ch.out,nD (.inr (by show BD nm J 0<0;rw[co];decide))]
   clear co;go_wp2_with fail
   refine np bg.out ?_;rintro e I ⟨rfl,H⟩;rw[cp.out];obtain⟨bb,F,be,b0⟩:=bY.out I H bd.out;have bs:=hid F;have cl:Hid _:=b0;have bi:=ar.below H;have b1:=ap.below H;clear F b0 T V Y Z aa ab ad R ak c0 bg bY;obtain⟨⟨T,V,Y,Z,aa,ab,ad,R⟩,ak⟩:=id bi;obtain⟨⟨z0,dw,dx,z3,z4,z5,dy,dz⟩,d0⟩:=id b1;go_wp2;have F:=bs.out;simp only[Au,zN,zH,nR]at F;rw[F];obtain⟨bu,bv,bx,bA,bB,bC,bF,bG⟩:=be.1;refine nG (v:=.tuple #[Al zN zH,.bool false]) (by simp[results,results96,go_sem,Al,zN,zH,bu,bv,bx,bA,bB,bC,bF,bG]) rfl cl.out
  rw[nU]at b2;have cp:=hid b2;have ec:p<J.length:=(ny.1 hx).1;have eE:Hid (O=BU (l.drop (j+1)) z):=by
   show _=_
   rw[ch.out,nC (by
    intro q;rcases q with q|q
    ·exact q rfl
    ·have q2:BD nm J 0<0:=q
     rw[b2]at q2;omega)]
   have eL:(BD nm (Nd.mk 2 d2 d3 d4 d5 d6 d7 J).kids 0).toNat=p:=by
    show(BD nm J 0).toNat=p;rw[b2];rfl
   rw[eL];have e0:(Nd.mk 2 d2 d3 d4 d5 d6 d7 J).kid p=z:=by
    unfold Nd.kid;show(match J[p]? with|some q=>q.2|none=>_)=z;rw[hx]
   rw[e0]
  have e1:cnt z≤800:=by
   have q1:=Jv hx;rw[cnt]at de;omega
  have e2:Be z:=by
   rw[Be]at cd;exact Ka cd.2.2 hx
  rcases d8 with e3|⟨fv,fx,ed,f,ee⟩
  ·rw[e3]at ec;simp at ec
  obtain⟨cr,ef⟩:=ee p nm z hx;have e4:=hid ed;clear b2 hx ee ed;generalize f p=b5 at cr ef;have fY:decide ((p:Int)<0)=false:=nB (by omega);have f0:(p:Int)<(J.length:Int):=by omega
  go_wp2_with fail
  refine np bg.out ?_;rintro e I ⟨rfl,H⟩;rw[cp.out];have cu:=Q.trans (H.mono Q.size);have bi:=ar.below H;have b1:=ap.below H;have e5:=cr.below cu;clear T V Y Z aa ab ad R ak c0 bg bY ar ap Q H cr;obtain⟨⟨T,V,Y,Z,aa,ab,ad,R⟩,ak⟩:=id bi;rw[e4.out]at R;have eg:=bi.store z b5;have cx:Ao G I (Au I G z b5):=Cz;have ej:=b1.but cx (by omega);have ek:=cu.trans (cx.below (B:=W.heap.size) (by omega) cu.size);generalize bk:Au I G z b5=f1 at eg ej ek;have el:=hid bk;clear cx bk;obtain⟨f2,f3,u3,g3,f4,f5,f7,f8⟩:=z;obtain⟨e6,e7,e8,e9,fa,fb,fc,fd,fe⟩:=e5.nine;go_wp2;have bk:=el.out;simp only[Au]at bk;rw[bk];clear bk el e6 e7 e8 e9 fa fb fc fd fe T V Y Z aa ab ad R ak;go_roundw
  case rel=>exact⟨j+1,_,b5,by omega,by go_num,eE.out,eg,ej,ef,e1,e2,ek⟩
  case measure=>simp[intOf];omega
mutual
def Fn(up:Bool):Nat→Nd→Prop
 |deep,.mk k m u g o nh d ks=>deep≤6∧DT up (decide (deep=0)) (.mk k m u g o nh d ks)=0∧Gs up (deep+1) none ks
def Gs(up:Bool):Nat→Option BA→Ar→Prop
 |_,_,[]=>True
 |deep,p,(n,x)::l=>AY n=true∧Je p n=true∧Fn up deep x∧Gs up deep (some n) l
end
mutual
theorem UI(up:Bool):∀(x:Nd) (F G:Nat),((CT up x F G).1=0↔Fn up F x∧G+cnt x≤60)∧((CT up x F G).1=0→(CT up x F G).2=G+cnt x)
 |.mk k m u g o nh d ks,F,G=>by
  rw[CT,Fn,cnt];by_cases I:60≤G∨6<F
  ·rw[nD I]
   refine⟨⟨fun h=>by simp at h,fun h=>by omega⟩,fun h=>by simp at h⟩
  rw[nC I];by_cases H:DT up (decide (F=0)) (.mk k m u g o nh d ks)=0
  ·rw[nC (by simpa using H)]
   obtain⟨J,O⟩:=Sb up none ks (F+1) (G+1);refine⟨⟨fun h=>?_,fun h=>?_⟩,fun h=>?_⟩
   ·have:=J.1 h
    refine⟨⟨by omega,H,this.1⟩,?_⟩;rcases this.2 with q|q
    ·subst q;rw[cntL];omega
    ·omega
   ·exact J.2 ⟨h.1.2.2,.inr (by omega)⟩
   ·rw[O h];omega
  ·rw[nD H]
   refine⟨⟨fun h=>absurd h H,fun h=>absurd h.1.2.1 H⟩,fun h=>absurd h H⟩
theorem Sb(up:Bool):∀(p:Option BA) (l:Ar) (G F:Nat),((CQ up p l G F).1=0↔Gs up G p l∧(l=[]∨F+cntL l≤60))∧((CQ up p l G F).1=0→(CQ up p l G F).2=F+cntL l)
 |p,[],G,F=>by
  rw[CQ,Gs,cntL];exact⟨⟨fun _=>⟨trivial,.inl rfl⟩,fun _=>rfl⟩,fun _=>rfl⟩
 |p,(n,x)::l,G,F=>by
  rw[CQ,Gs,cntL];by_cases I:AY n=false
  ·rw[nD I]
   exact⟨⟨fun h=>by simp at h,fun h=>by rw[I]at h;simp at h⟩,fun h=>by simp at h⟩
  rw[nC I];by_cases J:Je p n=false
  ·rw[nD J]
   exact⟨⟨fun h=>by simp at h,fun h=>by rw[J]at h;simp at h⟩,fun h=>by simp at h⟩
  rw[nC J];obtain⟨Q,T⟩:=UI up x G F;by_cases H:(CT up x G F).1=0
  ·rw[nC (by simpa using H)]
   have V:=Q.1 H;rw[T H];obtain⟨R,Y⟩:=Sb up (some n) l G (F+cnt x);refine⟨⟨fun h=>?_,fun h=>?_⟩,fun h=>?_⟩
   ·obtain⟨g1,O⟩:=R.1 h
    refine⟨⟨by simpa using I,by simpa using J,V.1,g1⟩,.inr ?_⟩;rcases O with O|O
    ·subst O;rw[cntL];omega
    ·omega
   ·refine R.2 ⟨h.1.2.2.2,?_⟩
    rcases h.2 with q|q
    ·cases q
    ·exact .inr (by omega)
   ·rw[Y h];omega
  ·rw[nD H]
   refine⟨⟨fun h=>absurd h H,fun h=>?_⟩,fun h=>absurd h H⟩;exfalso;refine H (Q.2 ⟨h.1.2.2.1,?_⟩);rcases h.2 with q|q
   ·cases q
   ·omega
end
theorem JJ(up:Bool)(x:Nd):CC up x=0↔x.kind=2∧Fn up 0 x∧cnt x≤60:=by
 obtain⟨k,m,u,g,o,nh,d,ks⟩:=x;rw[CC];have h:=(UI up (.mk k m u g o nh d ks) 0 0).1;show _↔k=2∧_;by_cases F:k=2
 ·rw[nC (by simpa using F),h,nU];exact⟨fun q=>⟨F,q⟩,fun q=>q.2⟩
 ·rw[nD F];exact⟨fun q=>by simp at q,fun q=>absurd q.1 F⟩
theorem ZX{up:Bool}{F:Nat}{x:Nd}(h:Fn up F x):Gs up (F+1) none x.kids:=by
 obtain⟨k,m,u,g,o,nh,d,G⟩:=x;rw[Fn]at h;exact h.2.2
theorem LY{m:BA}{y:Nd}:∀{ks:Ar},Bu ks→fk m ks=some y→AB y
 |[],_,h=>by cases h
 |(n,x)::l,ha,h=>by
  rw[Bu]at ha;rw[fk]at h;by_cases e:n=m
  ·rw[nD e]at h;simp only[nV]at h;subst h;exact ha.2.1
  ·rw[nC e]at h;exact LY ha.2.2 h
theorem Ll{m:BA}{z:Nd}(F:AB z):∀{ks:Ar},Bu ks→Bu (Cg m z ks)
 |[],_=>by rw[Cg,Bu];trivial
 |(n,x)::l,ha=>by
  rw[Bu]at ha;rw[Cg];by_cases e:n=m
  ·rw[nD e,Bu];subst e;exact⟨ha.1,F,ha.2.2⟩
  ·rw[nC e,Bu];exact⟨ha.1,ha.2.1,Ll F ha.2.2⟩
theorem RY{m:BA}:∀{ks:Ar},Bu ks→Bu (Eo m ks)
 |[],_=>by rw[Eo,Bu];trivial
 |(n,x)::l,ha=>by
  rw[Bu]at ha;rw[Eo];split
  ·exact ha.2.2
  ·rw[Bu];exact⟨ha.1,ha.2.1,RY ha.2.2⟩
theorem G3{x:Nd}{ks:Ar}:AB (x.with ks)↔AB (x.with [])∧Bu ks:=by
 obtain⟨k,m,u,g,o,nh,d,F⟩:=x;show AB (.mk k m u g o nh d ks)↔AB (.mk k m u g o nh d [])∧Bu ks;rw[AB,AB,Bu];exact⟨fun h=>⟨⟨h.1,h.2.1,trivial⟩,h.2.2⟩,fun h=>⟨h.1.1,h.1.2.1,h.2⟩⟩
theorem UW{l:List BA}{n r:Nd}(h:AV none l n=.ok r):AB n→AB r:=by
 refine JE (c:=none) (fun n r=>AB n→AB r) ?_ ?_ h
 ·intro m n ks _ G F
  rw[←GD n,G3]at F;rw[G3];refine⟨F.1,?_⟩;rcases JW G with⟨x,q,_⟩|⟨_,_,rfl⟩
  ·cases q
  ·exact RY F.2
 ·intro m n y z _ H I F
  rw[←GD n,G3]at F;rw[G3];exact⟨F.1,Ll (I (LY F.2 H)) F.2⟩
theorem SP:∀{l:List BA} {n y:Nd},BU l n=some y→(Cu n→Cu y)∧cnt y≤cnt n
 |[],n,y,h=>by rw[BU]at h;simp only[nV]at h;subst h;exact⟨id,nn _⟩
 |m::l,n,y,h=>by
  rw[JC]at h;by_cases G:n.kind≠2
  ·rw[nD G]at h;cases h
  rw[nC G]at h;cases hf:fk m n.kids with
  |none=>rw[hf]at h;cases h
  |some z=>
   rw[hf]at h;simp only at h;obtain⟨I,J⟩:=SP h;have O:cnt z≤cntL n.kids:=by
    rcases Hx m n.kids 0 with⟨_,q⟩|⟨j,Q,_,q2,F,_⟩
    ·rw[hf]at q;cases q
    ·rw[hf]at F;simp only[nV]at F;subst F;exact Jv q2
   refine⟨fun H=>I ?_,by rw[IV n];omega⟩;rw[←GD n,Ju]at H;exact OH H.2 hf
def Jf(S:Nat→Bool)(b:Nat):Nat→Bool:=fun k=>k==b||S k
theorem YI{W:World}{S:Nat→Bool}(b4:∀k,S k=true→k<W.heap.size){x0:Nd}{h:Hd}(bo:Ah (Ag W.cell? S) x0 h)(a:Option Addr)(ao:Nat)(l:List BA)(bp:AW W.cell? a l)(b5:l.length≤1000)(b6:l.length≤ao∧ao≤9223372036854775807)(b7:cnt x0≤800)(ap:Nd)(hx:Hd)(bs:Ah (Ag W.cell? S) ap hx)(bu:∀r,AV (some ap) l x0=.ok r→Be r∧cnt r≤1000):
 Calls prog 147 #[Al x0 h,.slice a l.length ao,Al ap hx] W fun e bb=>FY W bb S e (AV (some ap) l x0):=by
 obtain⟨bd,bv⟩:=AQ (AV (some ap) l x0);obtain⟨F,G,H,I,J,O,Q,R⟩:=ap;obtain⟨k,m,u,g,o,nh,d,ks⟩:=x0;have bx:=Av.new W k m u g o nh d ks h;have be:Below W.heap.size W (W.alloc (As k m u g o nh d ks h)):=bN;have bf:=Av.new (W.alloc (As k m u g o nh d ks h)) F G H I J O Q R hx;rw[nw]at bf;have bg:Below W.heap.size W ((W.alloc (As k m u g o nh d ks h)).alloc (As F G H I J O Q R hx)):=be.alloc be.size _;have a7:=Av.zero ((W.alloc (As k m u g o nh d ks h)).alloc (As F G H I J O Q R hx));rw[nw,nw]at a7;have q1:=(nv _ (W.alloc (As k m u g o nh d ks h))).alloc (nn _) (As F G H I J O Q R hx);have q2:=(nv _ ((W.alloc (As k m u g o nh d ks h)).alloc (As F G H I J O Q R hx))).alloc (nn _) AJ;have bA:=(bx.below q1).below q2;have bB:=bf.below q2;have ar:Below W.heap.size W (((W.alloc (As k m u g o nh d ks h)).alloc (As F G H I J O Q R hx)).alloc AJ):=bg.alloc bg.size _;have bi:AR (Ag W.cell? S) (Ag (((W.alloc (As k m u g o nh d ks h)).alloc (As F G H I J O Q R hx)).alloc AJ).cell? (Jf S (W.heap.size+1+1))):=BN fun k b9 ay=>⟨by simp[Jf,ay];omega,ar.block k b9⟩;have bC:cL 170 #[Al (.mk k m u g o nh d ks) h,.slice a l.length ao,.func (.func 178) #[] #[pO (W.heap.size+1) 0]] (((W.alloc (As k m u g o nh d ks h)).alloc (As F G H I J O Q R hx)).alloc AJ) fun e bb=>FY (((W.alloc (As k m u g o nh d ks h)).alloc (As F G H I J O Q R hx)).alloc AJ) bb (Jf S (W.heap.size+1+1)) e bd:=by
  rw[←bv.out];exact PO (S:=Jf S (W.heap.size+1+1)) (fun q T=>by simp only[Jf,Bool.or_eq_true,beq_iff_eq]at T;rcases T with T|T;(rw[T];exact a7.1.lt);(have dd:=b4 q T;have de:=ar.size;omega)) (bo.on bi) a ao l (bp.on (Aj ar)) b5 b6 b7 (W.heap.size+1) (.mk F G H I J O Q R) hx bB.1 (bs.on bi) bu
 have bF:Hid _:=bC;rw[bv.out];show cL 147 #[(A5 k m u g o nh d ks h),.slice a l.length ao,(A5 F G H I J O Q R hx)] _ _;obtain⟨⟨cb,cd,cf,cg,ch,cl,co,cp⟩,cr⟩:=id bA;clear bC bu bi bp bo;go_enter func147,ntmps147;go_wp2_with fail
 refine np bF.out ?_;rintro e az ⟨⟨h',rfl,a8⟩,bk⟩;have bl:=a7.below bk;have bG:=ar.trans (bk.mono ar.size);clear cb cd cf cg ch cl co cp cr bF bx bA a7 be ar bk q2 bf bB bg q1 bs;generalize dg:(W.heap.size+1+1)=a1 at bl a8⊢;generalize bH:DV bd=r at a8⊢;have bY:=hid bH;clear bH;obtain⟨V,Y,u2,Z,aa,ab,ad,ak⟩:=r;have b0:=bl.store (.mk V Y u2 Z aa ab ad ak) h';have bn:Ao a1 az (Au az a1 (.mk V Y u2 Z aa ab ad ak) h'):=Cz;have b1:=bG.trans (bn.below (B:=W.heap.size) (by omega) bG.size);have step:AR (Ag az.cell? (Jf S a1)) (Ag (Au az a1 (.mk V Y u2 Z aa ab ad ak) h').cell? S):=BN fun q T ay=>by simp only[Jf,Bool.or_eq_false_iff,beq_eq_false_iff_ne]at ay;exact⟨ay.2,bn.block q T ay.1⟩
 have b2:=a8.on step;generalize a6:Au az a1 (.mk V Y u2 Z aa ab ad ak) h'=dj at b0 b1 b2;have cu:=hid a6;have ba:Al (.mk V Y u2 Z aa ab ad ak) h'=(A5 V Y u2 Z aa ab ad ak h'):=rfl;rw[ba];obtain⟨⟨z0,dk,dm,z3,z4,z5,dn,dp⟩,dr⟩:=id bl;clear a6 step bn a8 ba;generalize b3:Am (EK bd)=ba;have cx:=hid b3;clear b3;go_wp2;have a6:=cu.out;simp only[Au]at a6;rw[a6];obtain⟨c3,c4,c5,c6,c8,c9,da,db⟩:=b0.1;refine nG (v:=.tuple #[Al (.mk V Y u2 Z aa ab ad ak) h',ba]) (by simp[results,results147,go_sem,Al,c3,c4,c5,c6,c8,c9,da,db]) rfl ⟨⟨h',by rw[bY.out,cx.out],by rw[bY.out];exact b2⟩,b1⟩
def EC(us gs:List Rg)(xs:List Nd)(nf:List BA)(U:Nd):Except Int Nd:=if AI xs nf=[]then .error 5 else E5 us gs xs nf U nf.length
theorem nZ(c:AH):Ah c zN zH:=Cq.2 ⟨.inl rfl,⟨nn _,by decide⟩,⟨nn _,by decide⟩,.inl rfl⟩
theorem Vs(W A B:World)(G H:Option Addr)(I J uc gc:Nat)(F:A=W.alloc (.cells #[.slice G I uc,.slice H J gc] 24))(O:B=A.alloc (.cells #[iN 0,iN 0,iN 0,iN 0,.bool false,.slice none 0 0,.string ⟨#[]⟩,.slice none 0 0] 54)):
 B.cell? (aD W.heap.size 0)=some (.slice G I uc)∧B.cell? (aD W.heap.size 1)=some (.slice H J gc)∧Av B (W.heap.size+1) zN zH∧Below W.heap.size W B∧B.heap.size=W.heap.size+1+1:=by
 have R:A.heap.size=W.heap.size+1:=by rw[F,nw]
 have Y:B.heap.size=W.heap.size+1+1:=by rw[O,nw,R]
 have T:Below W.heap.size W A:=by rw[F];exact bN
 have Q:Below A.heap.size A B:=by rw[O];exact bN
 have c0:Ce A W.heap.size 0 (.slice G I uc):=by rw[F];exact aC
 have c1:Ce A W.heap.size 1 (.slice H J gc):=by rw[F];exact aC
 have V:=Av.zero A;rw[←O,R]at V;exact⟨Aj Q _ _ c0,Aj Q _ _ c1,V,T.trans (Q.mono T.size),Y⟩
theorem Cs(w:World)(o:Obj):Below w.heap.size w (w.alloc o):=(nv _ _).alloc (nn _) _
end Go.Proofs.YtofhphibahcniaaGreatDoor
