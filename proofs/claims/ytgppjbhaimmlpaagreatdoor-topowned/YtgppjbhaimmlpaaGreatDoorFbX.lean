/-
  TopOwned: Fb Qa Ff Fg Fh Shs Fj Fk.
-/
import Derived.Test.YtgppjbhaimmlpaaGreatDoorApX
import Derived.Test.YtgppjbhaimmlpaaGreatDoorWoX
import Derived.Below
import Derived.Maps.OwnSet
import Derived.Test.YtgppjbhaimmlpaaGreatDoorWrX
import Derived.Lib.SliceRun
import Derived.Deep.Upon
import Derived.Deep.LoopGhost
import Derived.Test.YtgppjbhaimmlpaaGreatDoorUcX
import Derived.Maps.OwnOps
import Derived.Deep.RegionHeld3
import Derived.BigQuiet
import Derived.Shelf.SlSortCmp.WholeK
import Derived.Shelf.SlSortCmp.NoneTotal
import Derived.Test.YtgppjbhaimmlpaaGreatDoorProg
set_option maxRecDepth 100000
set_option maxHeartbeats 16000000
namespace Go.Proofs.YtgppjbhaimmlpaaGreatDoor
open Go.RowKit Go.Proofs.Tryz
abbrev Cw:=BA×Sp
abbrev Fx:=List (BA×List Sp)
def CU(nm:BA):List Cw→Option Sp
 |[]=>none
 |p::l=>if p.1=nm then some p.2 else CU nm l
theorem K1(nm:BA):∀(c d:List Cw),CU nm (c++d)=(CU nm c).or (CU nm d)
 |[],d=>rfl
 |p::c,d=>by
  rw[n9,CU,CU];split
  ·rfl
  ·exact K1 nm c d
theorem K3{nm:BA}{s:Sp}:∀{c:List Cw},CU nm c=some s→(nm,s)∈c
 |[],h=>by cases h
 |p::c,h=>by
  rw[CU]at h;split at h
  ·rename_i e;cases h;rw[←e];exact nJ ..
  ·exact n2 _ (K3 h)
def Dh(nm:BA)(P:List (List Cw))(c:List Cw):List Sp:=P.filterMap (CU nm)++(CU nm c).toList
structure Dn (A:Fx) (P:List (List Cw)) (c:List Cw):Prop where
 nd:(A.map (·.1)).Nodup
 eq:∀p∈A,p.2=Dh p.1 P c∧p.2≠[]
 all:∀nm,Dh nm P c≠[]→nm∈A.map (·.1)
theorem Dn.start:Dn [] [] []:=⟨List.nodup_nil,fun p F=>(by cases F),fun nm h=>absurd rfl h⟩
theorem Jb{nm F:BA}(h:nm≠F)(P:List (List Cw))(c:List Cw)(s:Sp):Dh F P (c++[(nm,s)])=Dh F P c:=by
 unfold Dh;rw[K1];have:CU F [(nm,s)]=none:=by rw[CU,nB h];rfl
 rw[this,Option.or_none]
theorem S9{nm:BA}{P:List (List Cw)}{c:List Cw}(h:CU nm c=none)(s:Sp):Dh nm P (c++[(nm,s)])=Dh nm P c++[s]:=by
 unfold Dh;rw[K1,h];simp[CU]
theorem bE{nm:BA}{P:List (List Cw)}{c:List Cw}(h:CU nm c≠none)(s:Sp):Dh nm P (c++[(nm,s)])=Dh nm P c:=by
 unfold Dh;rw[K1];cases e:CU nm c with
 |none=>exact absurd e h
 |some t=>rfl
theorem Dn.new{A:Fx}{P:List (List Cw)}{c:List Cw}(h:Dn A P c){nm:BA}{s:Sp}(G:nm∉A.map (·.1)):Dn (A++[(nm,[s])]) P (c++[(nm,s)]):=by
 have H:Dh nm P c=[]:=by
  cases e:Dh nm P c with
  |nil=>rfl
  |cons t r=>exact absurd (h.all nm (by rw[e];simp)) G
 have J:CU nm c=none:=by
  unfold Dh at H;have:=(List.append_eq_nil_iff.1 H).2;cases e:CU nm c with
  |none=>rfl
  |some t=>rw[e]at this;cases this
 refine⟨?_,?_,?_⟩
 ·rw[rA,List.nodup_append]
  refine⟨h.nd,by simp,fun a O b hb=>?_⟩;simp only[rh,List.map_nil,rj]at hb;subst hb;intro e;subst e;exact G O
 ·intro p F
  rcases rd.1 F with F|F
  ·have Q:=h.eq p F
   have R:nm≠p.1:=fun e=>G (by rw[e];exact rW F);rw[Jb R];exact Q
  ·rw[rj]at F
   subst F;rw[S9 J,H];exact⟨rfl,by simp⟩
 ·intro I h'
  by_cases e:nm=I
  ·subst e;simp
  ·rw[Jb e]at h'
   rw[rA];exact rd.2 (.inl (h.all I h'))
theorem QU{A:Fx}{i:Nat}{nm:BA}{L F:List Sp}(G:A[i]? =some (nm,L)):(A.set i (nm,F)).map (·.1)=A.map (·.1):=by
 rw[List.map_set];obtain⟨H,e⟩:=nw.1 G;apply List.ext_getElem?;intro j;rw[rP];split
 ·rename_i e2
  subst e2;simp[H,e]
 ·rfl
theorem Vz{A:Fx}{i:Nat}{q p:BA×List Sp}(h:p∈A.set i q):p=q∨∃j,j≠i∧A[j]? =some p:=by
 obtain⟨j,F⟩:=n5 h;rw[rP]at F;split at F
 ·split at F
  ·exact .inl (by cases F;rfl)
  ·cases F
 ·rename_i e
  exact .inr ⟨j,fun G=>e G.symm,F⟩
theorem Ye{A:Fx}(h:(A.map (·.1)).Nodup){i j:Nat}{p q:BA×List Sp}(F:A[i]? =some p)(G:A[j]? =some q)(e:p.1=q.1):i=j:=by
 induction A generalizing i j with
 |nil=>simp at F
 |cons a A H=>
  rw[rh,List.nodup_cons]at h;cases i with
  |zero=>
   cases j with
   |zero=>rfl
   |succ j=>
    simp at F;subst F;exact absurd (by rw[e];exact rW (nD (i:=j) (by simpa using G))) h.1
  |succ i=>
   cases j with
   |zero=>
    simp at G;subst G;exact absurd (by rw[←e];exact rW (nD (i:=i) (by simpa using F))) h.1
   |succ j=>exact nV (·+1) (H (i:=i) (j:=j) h.2 (by simpa using F) (by simpa using G))
theorem Dn.add{A:Fx}{P:List (List Cw)}{c:List Cw}(h:Dn A P c){i:Nat}{nm:BA}{L:List Sp}{s:Sp}(F:A[i]? =some (nm,L))(O:∀t,L.getLast? =some t→t.ly≠s.ly)(Q:∀q∈c,q.2.ly=s.ly):Dn (A.set i (nm,L++[s])) P (c++[(nm,s)]):=by
 have H:=h.eq _ (nD F);have R:CU nm c=none:=by
  cases e:CU nm c with
  |none=>rfl
  |some t=>
   have G:=H.1;simp only at G;unfold Dh at G;rw[e]at G;exact absurd (Q _ (K3 e)) (O t (by rw[G];simp))
 have T:=nD F;refine⟨by rw[QU F];exact h.nd,?_,?_⟩
 ·intro p V
  rcases Vz V with rfl|⟨j,Y,I⟩
  ·simp only
   rw[S9 R,←H.1];exact⟨rfl,by simp⟩
  ·have Z:nm≠p.1:=fun e=>Y (Ye h.nd I F e.symm)
   rw[Jb Z];exact h.eq p (nD I)
 ·intro J h'
  rw[QU F];by_cases e:nm=J
  ·subst e;exact rW T
  ·rw[Jb e]at h'
   exact h.all J h'
theorem Dn.old{A:Fx}{P:List (List Cw)}{c:List Cw}(h:Dn A P c){i:Nat}{nm:BA}{L:List Sp}{s t:Sp}(G:A[i]? =some (nm,L))(J:L.getLast? =some t)(O:t.ly=s.ly)(Q:∀d∈P,∀q∈d,q.2.ly≠s.ly):Dn A P (c++[(nm,s)]):=by
 have R:=h.eq _ (nD G);have T:CU nm c≠none:=fun e=>by
  have F:=R.1;simp only at F;unfold Dh at F;rw[e]at F;simp only[Option.toList_none,rQ]at F;have:t∈L:=List.mem_of_getLast? J;rw[F]at this;obtain⟨d,hd,V⟩:=rC.1 this;exact Q d hd _ (K3 V) O
 refine⟨h.nd,fun p H=>?_,fun I h'=>?_⟩
 ·by_cases e:nm=p.1
  ·subst e;rw[bE T];exact h.eq p H
  ·rw[Jb e];exact h.eq p H
 ·by_cases e:nm=I
  ·subst e;exact rW (nD G)
  ·rw[Jb e]at h';exact h.all I h'
theorem Tg(nm:BA)(P:List (List Cw))(c:List Cw):Dh nm (P++[c]) []=Dh nm P c:=by
 unfold Dh;rw[List.filterMap_append];show _++_++[]=_;rw[rQ];cases e:CU nm c with
 |none=>simp[e]
 |some t=>simp[e]
theorem Dn.dir{A:Fx}{P:List (List Cw)}{c:List Cw}(h:Dn A P c):Dn A (P++[c]) []:=⟨h.nd,fun p F=>by rw[Tg];exact h.eq p F,fun nm h'=>h.all nm (by rw[Tg]at h';exact h')⟩
def Vc(A:Fx):Fx:=(A.map fun p=>(p.1,Bp p.2)).filter fun p=> !p.2.isEmpty
def Vs(p:BA×List Sp):BA×AU:=(p.1,p.2.map Sp.pr)
theorem P7{A PL:Fx}{K:List (List Cw)}{l:AU}(h:Dn A K [])(Q:∀nm,(Dh nm K []).map Sp.pr=Bc nm l)(R:PL.Perm (Vc A))(aa:PL.Pairwise fun a b=>AX b.1 a.1=false):
 PL.map Vs=(DF l).map fun nm=>(nm,Cv l nm):=by
 have ab:((Vc A).map (·.1)).Nodup:=by
  have F:((A.map fun p=>(p.1,Bp p.2)).map (·.1)).Nodup:=by
   rw[r4];exact h.nd
  exact F.sublist (List.Sublist.map _ List.filter_sublist)
 have ad:(PL.map (·.1)).Nodup:=(R.map _).nodup_iff.2 ab;have ak:Gl (PL.map (·.1)):=by
  unfold Gl;rw[List.pairwise_map];have G:PL.Pairwise fun a b=>a.1≠b.1:=by
   have:=ad;unfold List.Nodup at this;rwa [List.pairwise_map]at this
  refine(List.Pairwise.and aa G).imp ?_;rintro a b ⟨I,H⟩;rcases It a.1 b.1 with e|e|e
  ·exact e
  ·exact absurd e H
  ·rw[e]at I;cases I
 have Y:∀p∈PL,p.2.map Sp.pr=Cv l p.1∧Cv l p.1≠[]:=by
  intro p T;have F:=R.mem_iff.1 T;obtain⟨G,I⟩:=List.mem_filter.1 F;obtain⟨q,J,rfl⟩:=rx.1 G;have H:=(h.eq q J).1;have O:(Bp q.2).map Sp.pr=Cv l q.1:=by
   rw[Oo,H,Q];rfl
  refine⟨O,fun e=>?_⟩;rw[←O]at e;have V:=List.map_eq_nil_iff.1 e;simp[V]at I
 have ao:∀nm,Cv l nm≠[]→nm∈PL.map (·.1):=by
  intro nm Z;have F:Bc nm l≠[]:=fun e=>Z (by unfold Cv;rw[e];rfl);have G:Dh nm K []≠[]:=fun e=>F (by rw[←Q,e];rfl)
  obtain⟨q,J,e⟩:=rx.1 (h.all nm G);refine rx.2 ⟨(q.1,Bp q.2),R.mem_iff.2 (List.mem_filter.2 ⟨rx.2 ⟨q,J,rfl⟩,?_⟩),e⟩;have H:=(h.eq q J).1;have O:(Bp q.2).map Sp.pr=Cv l q.1:=by rw[Oo,H,Q];rfl
  have ap:Bp q.2≠[]:=fun V=>Z (by rw[←e];show Cv l q.1=[];rw[←O,V];rfl);simp only[Bool.not_eq_true']
  cases e3:(Bp q.2)with
  |nil=>exact absurd e3 ap
  |cons a b=>rfl
 have az:PL.map (·.1)=DF l:=RP ak (P8 l) fun nm=>by
  rw[QQ];constructor
  ·intro a1
   obtain⟨p,a6,rfl⟩:=rx.1 a1;exact(Y p a6).2
  ·exact ao nm
 rw[←az,r4];refine List.map_congr_left fun p T=>?_;show(p.1,p.2.map Sp.pr)=(p.1,Cv l p.1)
 rw[(Y p T).1]
end Go.Proofs.YtgppjbhaimmlpaaGreatDoor
namespace Go.Proofs.YtgppjbhaimmlpaaGreatDoor
open Go.RowKit Go.Maps Go.Proofs.Tryz
structure Mv (S:Nat→Prop) (w w':World):Prop where
 os:w'.os=w.os
 tape:w'.tape=w.tape
 output:w'.output=w.output
 size:w.heap.size≤w'.heap.size
 block:∀k,k<w.heap.size→¬S k→w'.heap[k]? =w.heap[k]?
theorem Mv.refl(S:Nat→Prop)(w:World):Mv S w w:=⟨rfl,rfl,rfl,nl _,fun _ _ _=>rfl⟩
theorem Mv.trans{S:Nat→Prop}{a b c:World}(h:Mv S a b)(k:Mv S b c):Mv S a c:=
 ⟨k.os.trans h.os,k.tape.trans h.tape,k.output.trans h.output,nO h.size k.size,fun i F G=>(k.block i (nG F h.size) G).trans (h.block i F G)⟩
theorem Mv.of{S:Nat→Prop}{w w':World}(h:Below w.heap.size w w'):Mv S w w':=⟨h.os,h.tape,h.output,h.size,fun k F _=>h.block k F⟩
theorem Mv.setCell{S:Nat→Prop}{w w':World}(h:Mv S w w'){p:Addr}(F:S p.block)(u:Value):Mv S w (w'.setCell p u):=
 h.trans ⟨rfl,rfl,rfl,by simp[World.setCell],fun k _ G=>re _ _ _ _ (fun e=>G (e▸F))⟩
theorem Mv.below{S:Nat→Prop}{w w':World}(h:Mv S w w'){B:Nat}(F:B≤w.heap.size)(G:∀k,S k→B≤k):Below B w w':=
 ⟨h.os,h.tape,h.output,h.size,fun k H=>h.block k (nG H F) (fun I=>by have:=G k I;omega)⟩
theorem Mv.cell{S:Nat→Prop}{w w':World}(h:Mv S w w'){p:Addr}(F:p.block<w.heap.size)(G:¬S p.block):w'.cell? p=w.cell? p:=nR (w:=w) (h.block _ F G)
theorem Mv.frozen{S:Nat→Prop}{w w':World}(h:Mv S w w'){p:Addr}(F:p.block<w.heap.size)(G:¬S p.block):w'.frozen? p=w.frozen? p:=World.frozen?_of_block (w:=w) (h.block _ F G)
end Go.Proofs.YtgppjbhaimmlpaaGreatDoor
namespace Go.Proofs.YtgppjbhaimmlpaaGreatDoor
open Go.RowKit Go.Proofs.Tryz
structure Pe where
 n:BA
 a:Option Addr
 c:Nat
 L:List Sp
def Pe.pl(e:Pe):BA×List Sp:=(e.n,e.L)
structure DH (w:World) (b:Nat) (G:List Pe):Prop where
 cell:∀(i:Nat) e,G[i]? =some e→w.cell? ⟨b,i*2,none⟩=some (.string e.n)∧w.cell? ⟨b,i*2+1,none⟩=some (.slice e.a e.L.length e.c)
 free:∀j,w.frozen? ⟨b,j,none⟩=false
 lt:b<w.heap.size
theorem DH.mv{w w':World}{b:Nat}{G:List Pe}{S:Nat→Prop}(h:DH w b G)(hb:Mv S w w')(F:¬S b):DH w' b G:=
 ⟨fun i e H=>⟨(hb.cell (p:=(aD b (i*2))) h.lt F).trans (h.cell i e H).1,(hb.cell (p:=(aD b (i*2+1))) h.lt F).trans (h.cell i e H).2⟩,fun j=>(hb.frozen (p:=(aD b j)) h.lt F).trans (h.free j),nG h.lt hb.size⟩
theorem DH.below{w w':World}{b:Nat}{F:List Pe}(h:DH w b F)(hb:Below w.heap.size w w'):DH w' b F:=h.mv (S:=fun _=>False) (Mv.of hb) (fun e=>e)
theorem DH.set{w:World}{b:Nat}{G:List Pe}(h:DH w b G){i:Nat}{o:Pe}(H:G[i]? =some o)(e:Pe):DH ((w.setCell (aD b (i*2)) (.string e.n)).setCell (aD b (i*2+1)) (.slice e.a e.L.length e.c)) b (G.set i e):=by
 obtain⟨I,J⟩:=h.cell i o H;refine⟨fun j f F=>?_,fun j=>by rw[rJ,rJ];exact h.free j,by rw[World.size_setCell,World.size_setCell];exact h.lt⟩;rw[rP]at F;split at F
 ·rename_i e1
  subst e1;split at F
  ·cases F
   refine⟨?_,?_⟩
   ·rw[nz _ _ _ _ (by simp)]
    exact nH _ _ _ I
   ·exact nH _ _ _ ((nz _ _ _ _ (by simp)).trans J)
  ·cases F
 ·rename_i e1
  obtain⟨q1,q2⟩:=h.cell j f F;refine⟨?_,?_⟩
  ·rw[nz _ _ _ _ (fun e=>by have:=(Addr.mk.inj e).2.1;omega),nz _ _ _ _ (fun e=>by have:=(Addr.mk.inj e).2.1;omega)];exact q1
  ·rw[nz _ _ _ _ (fun e=>by have:=(Addr.mk.inj e).2.1;omega),nz _ _ _ _ (fun e=>by have:=(Addr.mk.inj e).2.1;omega)];exact q2
theorem Wk{w:World}{b cap:Nat}{F:List Pe}(h:DH w b F)(ab:F.length≤1000)(R:∀e∈F,e.L.length≤1000):
 Calls prog 152 #[sL b 0 F.length cap,.func (.func 117) #[] #[]] w fun e w'=>((e=.returned (iN (-1))∧∀x∈F,x.L≠[])∨∃i x,e=.returned (iN (i:Nat))∧F[i]? =some x∧x.L=[]∧∀x∈F.take i,x.L≠[])∧Below w.heap.size w w':=by
 obtain⟨N,I⟩:=A3 F.length;have ad:Hid _:=h;have ak:Hid _:=R;rw[I.out]at ab⊢;clear h R;go_enter func152,ntmps152;go_wp2;go_loopw [8] (fun i wr=>∃j:Nat,j≤N∧i=iN j∧Hid (∀x∈F.take j,x.L≠[])∧Below w.heap.size w wr) (fun i _=>N-(intOf i).toNat)
 case atStart=>exact⟨0,nM _,rfl,fun x hx=>(by simp at hx),nt _ _⟩
 case round=>
  obtain⟨j,a8,rfl,J,H⟩:=hrel;by_cases ao:j<N;rotate_left
  ·have ap:decide ((j:Int)<(N:Int))=false:=nA (by omega)
   have az:Hid (∀x∈F,x.L≠[]):=by
    have G:=J.out;rw[n1 (by rw[I.out];omega)]at G;exact G
   go_wp2;go_ret;exact⟨.inl ⟨rfl,az.out⟩,H⟩
  have ap:(j:Int)<(N:Int):=by omega
  obtain⟨x,hx⟩:∃x,F[j]? =some x:=⟨_,np (by rw[I.out];exact ao)⟩;obtain⟨c0,c1⟩:=(ad.out.below H).cell j x hx;have a1:=ak.out x (nD hx);have T:=hid hx;have O:=hid (Rb x.n x.a x.L.length x.c wr a1);obtain⟨t,Q⟩:∃t,(decide (x.L.length=0))=t:=⟨_,rfl⟩;have V:=hid Q;rw[Q]at O;have Y:Below wr.heap.size wr (wr.alloc (.cells #[.string x.n,.slice x.a x.L.length x.c] 128)):=bN;have Z:=H.trans (Y.mono H.size);clear hx Q Y;go_wp2_with fail
  refine O.out.mono ?_;rintro e ba ⟨rfl,rfl⟩;clear O c0 c1;cases t
  ·have a6:Hid (∀y∈F.take (j+1),y.L≠[]):=fun y aa=>by
    rw[rv,T.out]at aa;rcases rd.1 aa with G|G
    ·exact J.out y G
    ·simp at G
     rw[G];intro e;have:=V.out;rw[e]at this;simp at this
   go_wp2;go_roundw
   case rel=>exact⟨j+1,by omega,by go_num,a6.out,Z⟩
   case measure=>(simp[intOf];try omega)
  ·have a7:Hid (x.L=[]):=nW (rI V.out)
   go_wp2;go_ret;exact⟨.inr ⟨j,x,rfl,T.out,a7.out,J.out⟩,Z⟩
theorem VB{P:Program}(w:World)(t e Q:TypeId)(F G:Value)(H:P.underlying t=some (.slice e))(R:∀w,(zeroValue e).run P w=.ok (.agg #[F,G]) w)(T:F.oneCell'=true)(V:G.oneCell'=true)(Y:(Value.agg #[F,G]).cells=#[F,G])(b o n c:Nat)
 (Z:∀j,j<n*2→(w.cell? (aD b (o+j))).isSome=true) (aa:∀j,j<n*2→w.frozen? (aD b (o+j))=false):
 ∃I:List Value,I.length=n*2∧(Builtin.clear_ #[t] Q #[sL b o n c]).run P w=.ok (.tuple #[]) (w.setCells b o I):=by
 cases n with
 |zero=>exact⟨[],rfl,by simp[Builtin.clear_,run_underlying H,World.setCells]⟩
 |succ m=>
  have ab:(Builtin.zeroCells #[F,G] (m+1)).toList.length=(m+1)*2:=by simp[Builtin.zeroCells]
  refine⟨(Builtin.zeroCells #[F,G] (m+1)).toList,ab,?_⟩
  have J:=run_storeCells_cells (P:=P) b o (Builtin.zeroCells #[F,G] (m+1)).toList 0 w (fun j ad=>by rw[rT];exact Z j (by omega)) (fun j ad=>by rw[rT];exact aa j (by omega)) (by
   intro v O;simp only[Builtin.zeroCells,Array.toList_map,rx]at O;obtain⟨i,_,rfl⟩:=O;have:i%(#[F,G]:Array Value).size<2:=Nat.mod_lt _ (by simp);generalize i%(#[F,G]:Array Value).size=r at this;match r,this with
   |0,_=>exact T
   |1,_=>exact V)
  rw[rT]at J;simp[Builtin.clear_,run_underlying H,R,Y,J]
theorem Sq{w:World}{b o:Nat}(F:List Value):Mv (fun k=>k=b) w (w.setCells b o F):=by
 induction F generalizing w o with
 |nil=>exact Mv.refl _ _
 |cons v r G=>exact(Mv.setCell (S:=fun k=>k=b) (Mv.refl _ w) (p:=(aD b o)) rfl v).trans G
theorem cE(w:World):(zeroValue 128).run prog w=.ok (.agg #[.string ⟨#[]⟩,.slice none 0 0]) w:=by kernel_rfl
theorem VS{F:Type}(G:List F)(k:Nat)(x:F):(G.set k x).take k=G.take k:=by
 apply List.ext_getElem?;intro q;rw[rL,rL];split
 ·rw[List.getElem?_set_ne (by omega)]
 ·rfl
def Dq(F:List Pe):List Pe:=F.filter fun e=> !e.L.isEmpty
theorem Qz{F:List Pe}(h:∀x∈F,x.L≠[]):Dq F=F:=List.filter_eq_self.2 fun x hx=>by
 have:=h x hx;cases hL:x.L with
 |nil=>exact absurd hL this
 |cons a b=>rfl
theorem ME{F:List Pe}{j:Nat}{x:Pe}(h:F[j]? =some x):Dq (F.take (j+1))=Dq (F.take j)++(if x.L=[]then []else [x]):=by
 unfold Dq;rw[rv,h,List.filter_append];congr 1;show List.filter _ [x]=_;rw[List.filter_cons];cases hL:x.L with
 |nil=>simp
 |cons a b=>simp
theorem Zo{w:World}{b cap:Nat}{F:List Pe}(h:DH w b F)(bb:F.length≤1000)(ad:∀e∈F,e.L.length≤1000)(bH:F.length≤cap)(_hcap2:cap≤9223372036854775807):
 Calls prog 116 #[sL b 0 F.length cap,.func (.func 117) #[] #[]] w fun e w'=>e=.returned (sL b 0 (Dq F).length cap)∧DH w' b (Dq F)∧Mv (fun k=>k=b) w w':=by
 have T:Hid _:=Wk (cap:=cap) h bb ad;obtain⟨N,J⟩:=A3 F.length;have bd:Hid _:=h;have bY:Hid _:=ad;rw[J.out]at bb bH T⊢;clear h ad;go_enter func116,ntmps116;go_wp2_with fail
 refine nn T.out ?_;rintro e cA ⟨(⟨rfl,be⟩|⟨i,x,rfl,hx,bf,bg⟩),Q⟩
 ·have bi:Hid (Dq F=F):=Qz be
  have V:Hid _:=bd.out.below Q;clear T be;go_wp2;go_ret;refine⟨?_,?_,Mv.of Q⟩
  ·rw[bi.out,J.out];rfl
  ·rw[bi.out];exact V.out
 have ak:i<N:=by rw[←J.out];exact(nw.1 hx).1
 have bk:Hid (F.take i=Dq (F.take (i+1))):=by
  show _=_;rw[ME hx,nC bf,rQ,Qz bg]
 have V:Hid _:=bd.out.below Q;have b0:((i:Int)==-1)=false:=by rw[beq_eq_false_iff_ne];omega
 have cB:=hid ak;clear T hx bf bg;go_wp2;go_loopg [5,6,7] (N-(i+1)) (fun b1 b2 b3 _ wr=>∃(k j:Nat) (G:List Pe),b2=iN k∧b3=iN j∧k<j∧j≤N∧N-j≤b1∧G.length=N∧Hid (G.take k=Dq (F.take j)∧G.drop j=F.drop j)∧Hid (DH wr b G)∧Mv (fun q=>q=b) w wr)
 case atStart=>exact⟨i,i+1,F,rfl,by go_num,by omega,ak,nl _,J.out,⟨bk.out,rfl⟩,V.out,Mv.of Q⟩
 case round=>
  obtain⟨k,j,G,rfl,rfl,c3,c4,c5,bl,I,H,bn⟩:=hrel;clear V Q bk ak b0;by_cases b4:j<N
  ·have b5:decide ((j:Int)<(N:Int))=true:=nE (by omega)
   obtain⟨x,hx⟩:∃x,F[j]? =some x:=⟨_,np (by rw[J.out];exact b4)⟩;have bo:G[j]? =some x:=by
    have Y:=nV (fun l=>l[0]?) I.out.2;simp only[rM,rT]at Y;rw[Y];exact hx
   obtain⟨o,Z⟩:∃o,G[k]? =some o:=⟨_,np (by omega)⟩;obtain⟨c0,c1⟩:=H.out.cell j x bo;have ao:Below wr.heap.size wr (wr.alloc (.cells #[.string x.n,.slice x.a x.L.length x.c] 128)):=bN;have ap:Below wr.heap.size wr ((wr.alloc (.cells #[.string x.n,.slice x.a x.L.length x.c] 128)).alloc (.cells #[.string x.n,.slice x.a x.L.length x.c] 128)):=ao.alloc ao.size _;obtain⟨bp,bs⟩:=GA wr (.string x.n) (.slice x.a x.L.length x.c) 128;have b6:=Aj ((nt _ (wr.alloc (.cells #[.string x.n,.slice x.a x.L.length x.c] 128))).alloc (nl _) (.cells #[.string x.n,.slice x.a x.L.length x.c] 128)) _ _ bp;have b7:=Aj ((nt _ (wr.alloc (.cells #[.string x.n,.slice x.a x.L.length x.c] 128))).alloc (nl _) (.cells #[.string x.n,.slice x.a x.L.length x.c] 128)) _ _ bs;have O:=H.out.below ap;obtain⟨b9,cb⟩:=O.cell k o Z;have cf:=O.free (k*2);have cg:=O.free (k*2+1);have bu:Hid _:=O.set Z x;have bv:=bn.trans (Mv.of ap);have ch:=bY.out x (nD hx);have az:Hid (cL 117 #[.agg #[.string x.n,.slice x.a x.L.length x.c]] (wr.alloc (.cells #[.string x.n,.slice x.a x.L.length x.c] 128)) fun e w'=>e=.returned (.bool (decide (x.L.length=0)))∧w'=(wr.alloc (.cells #[.string x.n,.slice x.a x.L.length x.c] 128)).alloc (.cells #[.string x.n,.slice x.a x.L.length x.c] 128)):=Rb x.n x.a x.L.length x.c _ ch;have bx:=hid hx;have cl:Hid _:=O;have c6:=hid Z;have aa:Hid (G.drop (j+1)=F.drop (j+1)):=by
    show _=_;have Y:=nV (List.drop 1) I.out.2;rwa [List.drop_drop,List.drop_drop]at Y
   obtain⟨t,a1⟩:∃t,(decide (x.L.length=0))=t:=⟨_,rfl⟩;have bA:=hid a1;rw[a1]at az;clear hx bo a1 ao ap O Z H;go_wp2_with fail
   refine az.out.mono ?_;rintro e c8 ⟨rfl,rfl⟩;clear az c0 c1 bp bs;cases t
   ·have bB:x.L≠[]:=fun e=>by have:=bA.out;rw[e]at this;simp at this
    have a6:Hid ((G.set k x).take (k+1)=Dq (F.take (j+1))∧(G.set k x).drop (j+1)=F.drop (j+1)):=by
     refine⟨?_,?_⟩
     ·rw[ME bx.out,nB bB,←I.out.1,rv,VS,List.getElem?_set_self (by omega)];rfl
     ·rw[List.drop_set,nC (by omega)];exact aa.out
    clear bB I aa;go_wp2;go_roundg (N-(j+1))
    case measure=>omega
    case rel=>exact⟨k+1,j+1,G.set k x,by go_num,by go_num,by omega,by omega,nl _,by rw[List.length_set];exact bl,a6.out,bu.out,(bv.setCell (p:=(aD b (k*2))) rfl _).setCell (p:=(aD b (k*2+1))) rfl _⟩
   ·have bC:x.L=[]:=nW (rI bA.out)
    have a6:Hid (G.take k=Dq (F.take (j+1))∧G.drop (j+1)=F.drop (j+1)):=⟨by rw[ME bx.out,nC bC,rQ];exact I.out.1,aa.out⟩;clear bC I aa bu cf cg b9 cb b6 b7;go_wp2;go_roundg (N-(j+1))
    case measure=>omega
    case rel=>exact⟨k,j+1,G,rfl,by go_num,by omega,by omega,nl _,bl,a6.out,cl.out,bv⟩
  ·obtain rfl:j=N:=by omega
   have b5:=nA (by omega);have a7:Hid (G.take k=Dq F):=by
    have co:=I.out.1;rwa [n1 (l:=F) (by rw[J.out];omega)]at co
   have bF:Hid (k=(Dq F).length):=by
    show _=_;rw[←a7.out,rF];omega
   have bG:∀q,q<(j-k)*2→(wr.cell? (aD b (k*2+q))).isSome=true:=fun q ab=>by
    obtain⟨y,cp⟩:∃y,G[k+q / 2]? =some y:=⟨_,np (by omega)⟩;obtain⟨a8,ba⟩:=H.out.cell _ y cp;rcases Nat.mod_two_eq_zero_or_one q with e|e
    ·rw[show k*2+q=(k+q / 2)*2 by omega,a8];rfl
    ·rw[show k*2+q=(k+q / 2)*2+1 by omega,ba];rfl
   obtain⟨R,cq,c9⟩:=VB (P:=prog) wr 125 128 0 (.string ⟨#[]⟩) nL underlying125 cE rfl rfl rfl b (k*2) (j-k) (cap-k) bG (fun q _=>H.out.free _);have cr:Hid (DH (wr.setCells b (k*2) R) b (Dq F)):=by
    refine⟨fun q e ab=>?_,fun q=>by rw[rl];exact H.out.free q,by have:=(Sq (w:=wr) (b:=b) (o:=k*2) R).size;exact nG H.out.lt this⟩;have cu:q<k:=by rw[bF.out];exact(nw.1 ab).1
    rw[←a7.out,List.getElem?_take_of_lt cu]at ab;obtain⟨a8,ba⟩:=H.out.cell q e ab;exact⟨(World.cell?_setCells_out b R _ _ _ fun _ _=>.inl (by show q*2<k*2;omega)).trans a8,(World.cell?_setCells_out b R _ _ _ fun _ _=>.inl (by show q*2+1<k*2;omega)).trans ba⟩
   have cx:=bn.trans (Sq (w:=wr) (b:=b) (o:=k*2) R);clear bG cq H I a7;go_wp2;go_ret;exact⟨by rw[←bF.out];rfl,cr.out,cx⟩
end Go.Proofs.YtgppjbhaimmlpaaGreatDoor
namespace Go.Proofs.YtgppjbhaimmlpaaGreatDoor
open Go.RowKit Go.Maps Go.Proofs.Tryz
theorem V8{w:World}{base:Nat}{e:TypeId}{size g n cap:Nat}{xs:List Value}(h:w.ownsRow base e size (.slice (some ⟨g,0,none⟩) n cap) n xs)(j:Nat)(u:Value):(w.setCell ⟨g,j,none⟩ u).ownsRow base e size (.slice (some ⟨g,0,none⟩) n cap) n (xs.set j u):=by
 refine⟨by rw[List.length_set];exact h.1,.inr ?_⟩;rcases h.2 with⟨F,_⟩|⟨V,Y,G,F,hb,H,I,J,O,Q⟩
 ·cases F
 simp only[ro,nU,rc,true_and]at F;obtain⟨⟨rfl,_⟩,rfl⟩:=F;refine⟨g,cap,G.setIfInBounds j u,rfl,hb,?_,I,J,by rw[Array.size_setIfInBounds];exact O,?_⟩
 ·obtain⟨R,T⟩:=nI.1 H
  show(w.heap.modify g _)[g]? =_;rw[Array.getElem?_eq_getElem (by rw[Array.size_modify];exact R),Array.getElem_modify_self,T];rfl
 ·rw[Array.toList_setIfInBounds,List.take_set,Q]
def DQ:List Pe→List Value
 |[]=>[]
 |e::r=>.string e.n::.slice e.a e.L.length e.c::DQ r
theorem Ts:∀A B:List Pe,DQ (A++B)=DQ A++DQ B
 |[],_=>rfl
 |e::r,B=>by simp[DQ,Ts r B]
theorem LI:∀(A:List Pe) (i:Nat) (e:Pe),A[i]? =some e→(DQ A)[i*2]? =some (.string e.n)∧(DQ A)[i*2+1]? =some (.slice e.a e.L.length e.c)
 |[],i,e,h=>by simp at h
 |t::A,0,e,h=>by simp at h;subst h;exact⟨rfl,rfl⟩
 |t::A,i+1,e,h=>by
  have:=LI A i e (by simpa using h);rw[show(i+1)*2=i*2+2 by omega];simpa [DQ]using this
theorem SX:∀(A:List Pe),∀u∈DQ A,u.oneCell'=true
 |[],u,h=>by cases h
 |e::r,u,F=>by
  simp[DQ]at F;rcases F with rfl|rfl|F
  ·rfl
  ·rfl
  ·exact SX r u F
theorem SY:∀(A:List Pe) (i:Nat) (e o:Pe),A[i]? =some o→o.n=e.n→DQ (A.set i e)=(DQ A).set (i*2+1) (.slice e.a e.L.length e.c)
 |[],i,e,o,h,_=>by simp at h
 |t::A,0,e,o,h,hn=>by
  simp at h;subst h;simp[DQ,hn]
 |t::A,i+1,e,o,h,hn=>by
  have:=SY A i e o (by simpa using h) hn;rw[show(i+1)*2+1=i*2+1+1+1 by omega];simp[DQ,this]
def Gp(nm:BA):List BA→Nat→Option Nat
 |[],_=>none
 |x::r,i=>if x=nm then some i else Gp nm r (i+1)
theorem NJ{nm:BA}:∀{N:List BA} {i:Nat},nm∉N→Gp nm N i=none
 |[],_,_=>rfl
 |x::r,i,h=>by rw[Gp,nB (fun e=>h (by rw[e];exact nJ ..)),NJ fun e=>h (n2 _ e)]
theorem Ue{nm:BA}:∀{N:List BA} {i:Nat},nm∈N→∃k,Gp nm N i=some (i+k)∧N[k]? =some nm
 |[],_,h=>by cases h
 |x::r,i,h=>by
  rw[Gp];by_cases e:x=nm
  ·rw[nC e];exact⟨0,rfl,by simp[e]⟩
  ·rw[nB e]
   obtain⟨k,F,G⟩:=Ue (i:=i+1) ((nX.1 h).resolve_left fun q=>e q.symm);exact⟨k+1,by rw[F];congr 1;omega,by simpa using G⟩
theorem RH{nm x:BA}:∀{N:List BA} {i:Nat},Gp nm (N++[x]) i=(Gp nm N i).or (if x=nm then some (i+N.length)else none)
 |[],i=>by
  show(if x=nm then some i else none)=(none:Option Nat).or (if x=nm then some (i+0)else none);split<;>rfl
 |y::r,i=>by
  rw[n9,Gp,Gp];split
  ·rfl
  ·rw[RH,n3,show i+1+r.length=i+(r.length+1) by omega]
abbrev kN(nm:BA):Lit:=.string nm.data.toList
theorem bO{a b:BA}(h:a≠b):kN a≠kN b:=fun e=>h (by
 have G:a.data.toList=b.data.toList:=by injection e
 have F:a.data=b.data:=Array.toList_inj.1 G;cases a;cases b;simp at F;rw[F])
theorem Uy(nm:BA):WideAt.IsKeyLit (kN nm):=by simp[WideAt.IsKeyLit]
def JA(D:DataW Unit)(N:List BA):Prop:=IsMap D∧∀nm:BA,Maps.has D (kN nm)=(Gp nm N 0).isSome∧D.atKey (kN nm) (.lit (.int .i64 0))=.lit (.int .i64 (((Gp nm N 0).getD 0:Nat):Int))
theorem YK:JA (.map []) []:=⟨isMap_empty,fun _=>⟨rfl,rfl⟩⟩
theorem ZE{D:DataW Unit}{N:List BA}{x:BA}(h:JA D N)(G:x∉N):JA (D.put (kN x) (.lit (.int .i64 (N.length:Int)))) (N++[x]):=by
 refine⟨h.1.put _ _,fun nm=>?_⟩;rw[RH];by_cases e:x=nm
 ·subst e
  rw[nC rfl,NJ G,has_put_same h.1 (Uy _),atKey_put_same h.1 (Uy _)];exact⟨rfl,by simp⟩
 ·have F:=bO fun q=>e (Eq.symm q)
  rw[nB e,Option.or_none,has_put_other F,atKey_put_other F];exact h.2 nm
theorem U1:Keyed prog 9:=string_keyed underlying9
theorem cv(w:World):(zeroValue 3).run prog w=.ok (.int .i64 0) w:=by kernel_rfl
theorem M0{w w':World}{b n:Nat}{D:DataW Unit}(h:w.ownsMap prog 9 (plainElem prog 3) b n D)(hb:w'.heap[b]? =w.heap[b]?):w'.ownsMap prog 9 (plainElem prog 3) b n D:=by
 obtain⟨F,G,H,r⟩:=h;exact⟨F,G,hb.trans H,r⟩
theorem JU{w:World}{b n base m:Nat}{D:DataW Unit}{t:TypeId}{size:Nat}{v:Value}{xs:List Value}(h:w.ownsMap prog 9 (plainElem prog 3) b n D)(G:w.ownsRow base t size v m xs):v.ownBlock≠some b:=by
 obtain⟨I,J,H,r⟩:=h;rcases G.2 with⟨rfl,_⟩|⟨g,cap,O,rfl,_,F,_⟩
 ·simp[Value.ownBlock]
 ·intro e
  simp[Value.ownBlock]at e;subst e;rw[H]at F;cases F
theorem J4{w:World}{O Q R T V Y:Nat}{H I:TypeId}{F J:Value}{Z aa:List Value}(ab:H≠I)(ad:w.ownsRow O H V F R Z)(ak:w.ownsRow Q I Y J T aa):F.ownBlock=none∨F.ownBlock≠J.ownBlock:=by
 rcases ad.2 with⟨rfl,_⟩|⟨g,cap,ap,rfl,_,ao,_⟩
 ·exact .inl rfl
 ·right
  rcases ak.2 with⟨rfl,_⟩|⟨az,a1,a6,rfl,_,G,_⟩
  ·simp[Value.ownBlock]
  ·intro e
   simp[Value.ownBlock]at e;subst e;rw[ao]at G;simp at G;exact ab G.2
structure Em (w W:World) (mb:Nat) (v:Value) (E:List Pe):Prop where
 low:Below w.heap.size w W
 row:W.ownsRow w.heap.size 128 2 v E.length (DQ E)
 each:∀e∈E,W.ownsRow w.heap.size 104 2 (.slice e.a e.L.length e.c) e.L.length (Dp e.L)
 apart:∀(i j:Nat) e f,E[i]? =some e→E[j]? =some f→i≠j→e.a≠f.a
 ne:∀e∈E,e.L≠[]
 mp:∃D,W.ownsMap prog 9 (plainElem prog 3) mb E.length D∧JA D (E.map (·.n))
 mlow:w.heap.size≤mb
theorem Em.keep{w W G:World}{F:Nat}{v:Value}{E:List Pe}(h:Em w W F v E)(hb:Below W.heap.size W G):Em w G F v E:=by
 obtain⟨D,H,I⟩:=h.mp;exact⟨h.low.trans (hb.mono h.low.size),GR h.row hb,fun e J=>GR (h.each e J) hb,h.apart,h.ne,⟨D,M0 H (hb.block F H.lt),I⟩,h.mlow⟩
theorem Gb{w:World}{base:Nat}{t:TypeId}{a:Option Addr}{n cap size:Nat}{xs:List Value}(h:w.ownsRow base t size (.slice a n cap) n xs)(G:0<n):∃g,a=some ⟨g,0,none⟩∧base≤g∧g<w.heap.size:=by
 rcases h.2 with⟨_,H⟩|⟨g,I,J,e,hb,F,_⟩
 ·omega
 ·simp only[ro,true_and]at e
  exact⟨g,e.1,hb,(nI.1 F).1⟩
theorem Em.new{w W F Y:World}{T:Nat}{v ak:Value}{E:List Pe}{nm:BA}{s:Sp}{D:DataW Unit}(h:Em w W T v E)(a6:F.ownsMap prog 9 (plainElem prog 3) T (E.length+1) D)(a7:JA D (E.map (·.n)++[nm]))(G:W.grownBy F (some T))
 (a8:Y.ownsRow w.heap.size 128 2 ak (E.length+1) (DQ E++DQ [⟨nm,some ⟨F.heap.size,0,none⟩,1,[s]⟩]))
 (Q:((F.alloc (.cells #[.pointer (some ⟨s.b,s.p,none⟩),.int .i64 s.ly] 104)).alloc (.cells #[.string nm,.slice (some ⟨F.heap.size,0,none⟩) 1 1] 128)).grownBy Y v.ownBlock):
 Em w Y T ak (E++[⟨nm,some ⟨F.heap.size,0,none⟩,1,[s]⟩]):=by
 have aa:((F.alloc (.cells #[.pointer (some ⟨s.b,s.p,none⟩),.int .i64 s.ly] 104)).alloc (.cells #[.string nm,.slice (some ⟨F.heap.size,0,none⟩) 1 1] 128)).heap.size=F.heap.size+1+1:=by rw[nv,nv]
 have ba:w.heap.size≤F.heap.size:=nO h.low.size G.size;have ao:∀g,v.ownBlock=some g→w.heap.size≤g∧g<W.heap.size:=fun g R=>⟨(h.row.lt g R).1,(h.row.lt g R).2⟩
 have ap:∀k,k<W.heap.size→k≠T→v.ownBlock≠some k→Y.heap[k]? =W.heap[k]?:=fun k ab Z bb=>by
  rw[Q.block k (by rw[aa];have:=G.size;omega) (fun e=>bb e.symm),rR _ _ _ (by rw[nv];have:=G.size;omega),rR _ _ _ (by have:=G.size;omega)];exact G.block k ab (by simpa using Z)
 obtain⟨bk,ad,_⟩:=h.mp;have bd:Below w.heap.size W Y:=⟨Q.os.trans G.os,Q.tape.trans G.tape,Q.output.trans G.output,by have Z:=Q.size;rw[aa]at Z;have:=G.size;omega,fun k ab=>ap k (nG ab h.low.size) (fun e=>by have:=h.mlow;omega) (fun e=>by have:=(ao k e).1;omega)⟩
 have be:((F.alloc (.cells #[.pointer (some ⟨s.b,s.p,none⟩),.int .i64 s.ly] 104))).ownsRow w.heap.size 104 2 (.slice (some ⟨F.heap.size,0,none⟩) 1 1) 1 (Dp [s]):=
  ⟨rfl,.inr ⟨F.heap.size,1,#[.pointer (some ⟨s.b,s.p,none⟩),.int .i64 s.ly],rfl,ba,heap_alloc_new F _,nl _,by decide,rfl,rfl⟩⟩
 refine⟨h.low.trans bd,?_,?_,?_,?_,?_,h.mlow⟩
 ·rw[nK,Ts];exact a8
 ·intro e H
  rcases rd.1 H with H|H
  ·have V:=h.each e H
   refine Hr V fun g R=>?_;have bf:=JU ad V
   have bg:=J4 (show 104≠128 by decide) V h.row;refine ap g (V.lt g R).2 (fun O=>bf (by rw[R,O])) (fun O=>?_);rcases bg with q|q
   ·rw[R]at q;cases q
   ·exact q (R.trans O.symm)
  ·rw[rj]at H
   subst H;refine(be.alloc _).kept Q (.inr fun O=>?_);have Z:=(ao F.heap.size (by rw[←O];rfl)).2;have:=G.size;omega
 ·intro i j e f J I bi
  have az:∀(i:Nat) e,E[i]? =some e→e.a≠some ⟨F.heap.size,0,none⟩:=fun i e J O=>by
   have V:=h.each e (nD J);obtain⟨g,a1,_,bl⟩:=Gb V (ri.2 (h.ne e (nD J)));rw[O]at a1;simp only[nU,rc]at a1;have:=G.size;omega
  rw[List.getElem?_append]at J I;split at J
  ·split at I
   ·exact h.apart i j e f J I bi
   ·rw[List.getElem?_singleton]at I
    split at I
    ·cases I;exact az i e J
    ·cases I
  ·rename_i hil
   rw[List.getElem?_singleton]at J;split at J
   ·cases J
    split at I
    ·exact fun O=>az j f I O.symm
    ·rw[List.getElem?_singleton]at I
     split at I
     ·omega
     ·cases I
   ·cases J
 ·intro e H
  rcases rd.1 H with H|H
  ·exact h.ne e H
  ·rw[rj]at H
   subst H;simp
 ·refine⟨D,?_,by rw[rA];exact a7⟩
  rw[nK];refine M0 a6 ?_;have bn:=ad.lt;rw[Q.block T (by rw[aa];have:=G.size;omega) (fun e=>JU ad h.row e.symm),rR _ _ _ (by rw[nv];have:=G.size;omega),rR _ _ _ (by have:=G.size;omega)]
theorem Em.add{w W W2:World}{V I cap:Nat}{E:List Pe}{i:Nat}{e:Pe}{s:Sp}{a2:Option Addr}{c2:Nat}(h:Em w W V (.slice (some ⟨I,0,none⟩) E.length cap) E)(O:E[i]? =some e)
 (a7:W2.ownsRow w.heap.size 104 2 (.slice a2 (e.L.length+1) c2) (e.L.length+1) (Dp e.L++Dp [s])) (J:(W.alloc (.cells #[.pointer (some ⟨s.b,s.p,none⟩),.int .i64 s.ly] 104)).grownBy W2 (Value.slice e.a e.L.length e.c).ownBlock)
 (Y:(Value.slice a2 (e.L.length+1) c2).ownBlock=(Value.slice e.a e.L.length e.c).ownBlock∨(Value.slice a2 (e.L.length+1) c2).ownBlock=some (W.alloc (.cells #[.pointer (some ⟨s.b,s.p,none⟩),.int .i64 s.ly] 104)).heap.size):
 Em w (W2.setCell ⟨I,i*2+1,none⟩ (.slice a2 (e.L.length+1) c2)) V (.slice (some ⟨I,0,none⟩) E.length cap) (E.set i ⟨e.n,a2,c2,e.L++[s]⟩):=by
 have a8:=nD O;have ak:=h.each e a8;have bg:=ri.2 (h.ne e a8);obtain⟨ge,Q,b0,b1⟩:=Gb ak bg;obtain⟨bi,ao,b2,b3⟩:=Gb a7 (by omega);rw[nv]at Y;rw[Q,ao]at Y;simp only[Value.ownBlock,nU]at Y;rw[Q]at J;simp only[Value.ownBlock]at J;have b4:=(nw.1 O).1;obtain⟨b5,ab,bk,bl⟩:=Gb h.row (by omega);simp only[nU,rc]at ab;obtain⟨ab,_⟩:=ab;subst ab;have ba:I≠ge:=fun q=>by
  rcases J4 (show 128≠104 by decide) h.row ak with G|G
  ·cases G
  ·exact G (by rw[Q];show some I=some ge;rw[q])
 obtain⟨D,ad,bn⟩:=h.mp;have bo:V≠ge:=fun q=>JU ad ak (by rw[Q,q];rfl);have bp:V≠I:=fun q=>JU ad h.row (by rw[q];rfl)
 have bs:=J.size;rw[nv]at bs;have ap:∀k,k<W.heap.size→k≠ge→W2.heap[k]? =W.heap[k]?:=fun k F az=>by
  rw[J.block k (by rw[nv];omega) (by simpa using az),rR _ _ _ F]
 have bb:∀k,k<W.heap.size→k≠ge→k≠I→(W2.setCell ⟨I,i*2+1,none⟩ (.slice a2 (e.L.length+1) c2)).heap[k]? =W.heap[k]?:=fun k F az bu=>by
  rw[re _ _ _ _ (by exact bu)];exact ap k F az
 have bv:bi≠I:=by
  rcases Y with q|q
  ·rw[q];exact fun G=>ba G.symm
  ·rw[q];omega
 have bx:Below w.heap.size W W2:=⟨J.os,J.tape,J.output,by omega,fun k F=>ap k (nG F h.low.size) (by omega)⟩;refine⟨h.low.trans (bx.setCell (p:=⟨I,i*2+1,none⟩) bk _),?_,?_,?_,?_,?_,h.mlow⟩
 ·rw[List.length_set,SY E i ⟨e.n,a2,c2,e.L++[s]⟩ e O rfl,show(e.L++[s]).length=e.L.length+1 by simp]
  exact V8 (Hr h.row fun k F=>by
   simp[Value.ownBlock]at F;subst F;exact ap I bl ba) _ _
 ·intro f a1
  obtain⟨j,H⟩:=n5 a1;rw[rP]at H;split at H
  ·cases H
   ·show World.ownsRow _ _ _ _ (.slice a2 (e.L++[s]).length c2) (e.L++[s]).length (Dp (e.L++[s]))
    rw[M3,show(e.L++[s]).length=e.L.length+1 by simp];exact Hr a7 fun k F=>by
     rw[ao]at F;simp[Value.ownBlock]at F;subst F;exact re _ _ _ _ (by exact bv)
  ·rename_i hij
   have Z:=h.each f (nD H);obtain⟨gf,R,bA,bd⟩:=Gb Z (ri.2 (h.ne f (nD H)));have bB:gf≠ge:=fun q=>h.apart j i f e H O (fun q=>hij q.symm) (by rw[R,Q,q]);have bC:gf≠I:=fun q=>by
    rcases J4 (show 128≠104 by decide) h.row Z with G|G
    ·cases G
    ·exact G (by rw[R];show some I=some gf;rw[q])
   refine Hr Z fun k F=>?_;rw[R]at F
   simp[Value.ownBlock]at F;subst F;exact bb _ bd bB bC
 ·
  have be:∀(j:Nat) f,E[j]? =some f→j≠i→f.a≠a2:=fun j f H bF G=>by
   have Z:=h.each f (nD H);obtain⟨gf,R,bA,bd⟩:=Gb Z (ri.2 (h.ne f (nD H)));rw[R,ao]at G;simp only[nU,rc]at G;rcases Y with q|q
   ·exact h.apart j i f e H O bF (by rw[R,Q];simp)
   ·omega
  intro p q f bf aa T bG;rw[rP]at aa T;split at aa
  ·rename_i G
   cases aa;split at T
   ·omega
   ·exact fun a6=>be q bf T (by omega) a6.symm
  ·split at T
   ·cases T
    exact be p f aa (by omega)
   ·exact h.apart p q f bf aa T bG
 ·intro f a1
  obtain⟨j,H⟩:=n5 a1;rw[rP]at H;split at H
  ·cases H;simp
  ·exact h.ne f (nD H)
 ·refine⟨D,?_,?_⟩
  ·rw[List.length_set]
   exact M0 ad (bb V ad.lt bo bp)
  ·have G:(E.set i ⟨e.n,a2,c2,e.L++[s]⟩).map (·.n)=E.map (·.n):=by
    rw[List.map_set];apply List.ext_getElem?;intro j;rw[rP];split
    ·rename_i a6
     subst a6;obtain⟨bH,bY⟩:=nw.1 O;simp[bH,bY]
    ·rfl
   rw[G];exact bn
theorem Em.start{w W:World}{F:Nat}(H:Below w.heap.size w W)(I:w.heap.size≤F){D:DataW Unit}(J:W.ownsMap prog 9 (plainElem prog 3) F 0 D)(O:JA D []):Em w W F (.slice none 0 0) []:=
 ⟨H,rB _ _ _ _,fun e G=>(by cases G),fun i j e f Q=>(by simp at Q),fun e G=>(by cases G),⟨D,J,O⟩,I⟩
def Hg(c:AJ)(d:Sp)(k:List Cw):Prop:=k.length=d.x.dirKs.length∧∀(j:Nat) p,d.x.dirKs[j]? =some p→∃(F G:Nat) (s:Sp),d.h.ak=some ⟨F,G,none⟩∧k[j]? =some (p.1,s)∧s.b=F∧s.p=G+j*9+1∧s.ly=d.ly∧s.x=p.2∧c ⟨F,G+j*9,none⟩=some (.string p.1)∧Cx c s
theorem cH{c:AJ}{d:Sp}(h:Cx c d):∃k,Hg c d k:=by
 obtain⟨b,p,ly,⟨G,m,u,g,o,nh,H,ks⟩,hd⟩:=d;by_cases Q:G=2
 ·obtain⟨_,_,_,T⟩:=Cj.1 h.2
  have R:(Nd.mk G m u g o nh H ks).dirKs=ks:=nC Q;rcases T with e|⟨I,J,e,f,O⟩
  ·refine⟨[],?_⟩
   unfold Hg;rw[show(Sp.mk b p ly (.mk G m u g o nh H ks) hd).x.dirKs=ks from R,e];exact⟨rfl,fun j p F=>by simp at F⟩
  ·refine⟨ks.mapIdx fun j p=>(p.1,⟨I,J+j*9+1,ly,p.2,f j⟩),?_⟩
   unfold Hg;rw[show(Sp.mk b p ly (.mk G m u g o nh H ks) hd).x.dirKs=ks from R];refine⟨by simp,fun j q F=>⟨I,J,⟨I,J+j*9+1,ly,q.2,f j⟩,e,?_,rfl,rfl,rfl,rfl,(O j q.1 q.2 F).1.1,(O j q.1 q.2 F).1.2,(O j q.1 q.2 F).2⟩⟩;rw[List.getElem?_mapIdx,F];rfl
 ·refine⟨[],?_⟩
  unfold Hg;rw[show(Sp.mk b p ly (.mk G m u g o nh H ks) hd).x.dirKs=[]from nB Q];exact⟨rfl,fun j p F=>by simp at F⟩
theorem aB{c:AJ}{D:List Sp}(G:∀d∈D,Cx c d):∃K:List (List Cw),K.length=D.length∧∀(i:Nat) d,D[i]? =some d→∃k,K[i]? =some k∧Hg c d k:=by
 induction D with
 |nil=>exact⟨[],rfl,fun i d F=>by simp at F⟩
 |cons d D H=>
  obtain⟨K,I,J⟩:=H fun e O=>G e (n2 _ O);obtain⟨k,Q⟩:=cH (G d (nJ ..))
  refine⟨k::K,by simp[I],fun i e F=>?_⟩;cases i with
  |zero=>simp at F;subst F;exact⟨k,rfl,Q⟩
  |succ i=>exact J i e (by simpa using F)
theorem Zw{c:AJ}{d:Sp}{k:List Cw}(h:Hg c d k)(nm:BA):(CU nm k).map Sp.pr=(CV nm d.x).map fun y=>(y,d.ly):=by
 rw[Jp];obtain⟨O,Q⟩:=h;generalize d.x.dirKs=ks at O Q;have R:∀(ks:At) (k:List Cw),k.length=ks.length→(∀(j:Nat) p,ks[j]? =some p→∃s:Sp,k[j]? =some (p.1,s)∧s.ly=d.ly∧s.x=p.2)→(CU nm k).map Sp.pr=(Ee nm ks).map fun y=>(y,d.ly):=by
  intro ks;induction ks with
  |nil=>
   intro k F _;rw[nW F];rfl
  |cons p ks T=>
   intro k F G;cases k with
   |nil=>simp at F
   |cons q k=>
    obtain⟨s,H,I,J⟩:=G 0 p rfl;simp at H;subst H;rw[CU,Ee];split
    ·simp[Sp.pr,I,J]
    ·exact T k (by simpa using F) fun j V Y=>by
      obtain⟨Z,aa,ab⟩:=G (j+1) V (by simpa using Y);exact⟨Z,by simpa using aa,ab⟩
 exact R ks k O fun j p G=>by
  obtain⟨_,_,s,_,H,_,_,I,J,_⟩:=Q j p G;exact⟨s,H,I,J⟩
theorem aS{c:AJ}{D:List Sp}{K:List (List Cw)}(F:K.length=D.length)(h:∀(i:Nat) d,D[i]? =some d→∃k,K[i]? =some k∧Hg c d k)(nm:BA):(Dh nm K []).map Sp.pr=Bc nm (D.map Sp.pr):=by
 unfold Dh Bc;show(K.filterMap (CU nm)++[]).map Sp.pr=_;rw[rQ];induction D generalizing K with
 |nil=>rw[nW F];rfl
 |cons d D I=>
  cases K with
  |nil=>simp at F
  |cons k K=>
   obtain⟨Z,G,J⟩:=h 0 d rfl;simp at G;subst G;have H:=I (K:=K) (by simpa using F) fun i e O=>by
    obtain⟨Q,R,T⟩:=h (i+1) e (by simpa using O);exact⟨Q,by simpa using R,T⟩
   have V:=Zw J nm;rw[rr,rh,rr];have Y:Option.map (fun y=>(y,d.pr.snd)) (CV nm d.pr.fst)=(CU nm k).map Sp.pr:=V.symm;rw[Y];cases CU nm k with
   |none=>exact H
   |some s=>simp only[rh,r0];rw[H]
theorem Xx{w:World}{d:Sp}(H:Cx w.cell? d):∃G kc,(d.x.dirKs≠[]→G=d.h.ak)∧
 Calls prog 103 #[.agg #[pO d.b d.p,iN d.ly]] w fun e w'=>e=.returned (.slice G d.x.dirKs.length kc)∧Below w.heap.size w w':=by
 have h:=RQ H;by_cases F:d.x.kind=2
 ·refine⟨d.h.ak,d.h.ck,fun _=>rfl,?_⟩
  rw[nC F]at h;have e:d.x.dirKs=d.x.kids:=nC F;rw[e];exact h
 ·refine⟨none,0,fun I=>absurd (nB F) I,?_⟩
  rw[nB F]at h;have e:d.x.dirKs=[]:=nB F;rw[e];exact h
def Ck(E:List Pe):Fx:=E.map Pe.pl
theorem cI(E:List Pe):(Ck E).map (·.1)=E.map (·.n):=by unfold Ck;rw[r4];rfl
theorem NW{E:List Pe}{i:Nat}{e:Pe}(h:E[i]? =some e):(Ck E)[i]? =some (e.n,e.L):=by unfold Ck;rw[n4,h];rfl
theorem TH(E:List Pe)(i:Nat)(e:Pe):Ck (E.set i e)=(Ck E).set i (e.n,e.L):=by unfold Ck;rw[List.map_set];rfl
theorem aA(E:List Pe)(e:Pe):Ck (E++[e])=Ck E++[(e.n,e.L)]:=by unfold Ck;rw[rA];rfl
theorem Tryz.infoP:(prog.info? 128).map (fun i=>(i.zero,i.size,i.bytes))=some (some (.agg #[.string ⟨#[]⟩,.slice none 0 0]),2,40):=by kernel_rfl
def Ds:List Pe→Nat
 |[]=>0
 |e::r=>e.L.length+Ds r
theorem TF:∀(A:List Pe) (e:Pe),Ds (A++[e])=Ds A+e.L.length
 |[],e=>by simp[Ds]
 |a::A,e=>by simp[Ds,TF A e];omega
theorem Oe:∀{E:List Pe},(∀e∈E,e.L≠[])→E.length≤Ds E
 |[],_=>nl _
 |e::E,h=>by
  have G:=Oe fun f F=>h f (n2 _ F);have H:=ri.2 (h e (nJ ..))
  simp[Ds];omega
theorem NH:∀{E:List Pe} {e:Pe},e∈E→e.L.length≤Ds E
 |[],_,h=>by cases h
 |a::E,e,h=>by
  rcases nX.1 h with q|q
  ·rw[q];simp[Ds]
  ·have:=NH q;simp[Ds];omega
theorem TJ:∀{E:List Pe} {i:Nat} {e F:Pe},E[i]? =some e→F.L.length=e.L.length+1→Ds (E.set i F)=Ds E+1
 |[],i,e,F,h,_=>by simp at h
 |a::E,0,e,F,h,k=>by simp at h;subst h;simp[Ds,k];omega
 |a::E,i+1,e,F,h,k=>by have:=TJ (E:=E) (i:=i) (by simpa using h) k;simp[Ds,this];omega
def kc(K:List (List Cw)):Nat:=(K.map List.length).sum
theorem bt(K:List (List Cw))(k:List Cw):kc (K++[k])=kc K+k.length:=by simp[kc]
theorem Z5{K:List (List Cw)}{j:Nat}{k:List Cw}(h:K[j]? =some k):kc (K.take j)+k.length≤kc K:=by
 have e:=WH h;have F:kc K=kc (K.take j++k::K.drop (j+1)):=by rw[←e]
 rw[F];simp[kc]
theorem bU{c:AJ}{D:List Sp}{K:List (List Cw)}(F:K.length=D.length)(h:∀(i:Nat) d,D[i]? =some d→∃k,K[i]? =some k∧Hg c d k):kc K≤tot (D.map Sp.pr):=by
 induction D generalizing K with
 |nil=>rw[nW F];exact nM _
 |cons d D H=>
  cases K with
  |nil=>simp at F
  |cons k K=>
   obtain⟨V,G,I⟩:=h 0 d rfl;simp at G;subst G;have J:=H (K:=K) (by simpa using F) fun i e O=>by
    obtain⟨Q,R,T⟩:=h (i+1) e (by simpa using O);exact⟨Q,by simpa using R,T⟩
   have Y:=I.1;have Z:=Qo d.x;have aa:=Hs d.x.dirKs;have ab:cnt d.pr.1=cnt d.x:=rfl;simp only[kc,rh,List.sum_cons,tot]at J⊢;omega
end Go.Proofs.YtgppjbhaimmlpaaGreatDoor
namespace Go.Proofs.YtgppjbhaimmlpaaGreatDoor
open Go.Shelf Go.Proofs.Tryz
def Tryz.sortL_ren:Go.Shelf.Ren:=⟨fun|6=>118|14=>153|15=>154|20=>171|21=>172|22=>173|23=>174|24=>175|25=>176|26=>177|27=>178|28=>179|29=>180|46=>188|47=>189|48=>190|49=>191|50=>192|57=>200|n=>n,fun|0=>0|3=>3|4=>4|5=>5|9=>9|22=>125|25=>180|39=>201|45=>219|46=>220|50=>70|53=>226|55=>228|66=>233|70=>237|76=>243|77=>165|24=>128|n=>n,fun n=>n⟩
theorem Tryz.sortL:Go.Proofs.SlLaysF0.n6 prog Tryz.sortL_ren:={
 mixed:=by kernel_rfl
 f6:=⟨ "slices.SortFunc[[]idshift/merge.place,idshift/merge.place]",by decide,func118.trans (nV some (by kernel_rfl))⟩
 f14:=⟨ "slices.pdqsortCmpFunc[idshift/merge.place]",by decide,func153.trans (nV some (by kernel_rfl))⟩
 f15:=func154.trans (nV some (by kernel_rfl))
 f20:=⟨ "slices.insertionSortCmpFunc[idshift/merge.place]",by decide,func171.trans (nV some (by kernel_rfl))⟩
 f21:=⟨ "slices.heapSortCmpFunc[idshift/merge.place]",by decide,func172.trans (nV some (by kernel_rfl))⟩
 f22:=⟨ "slices.breakPatternsCmpFunc[idshift/merge.place]",by decide,func173.trans (nV some (by kernel_rfl))⟩
 f23:=⟨ "slices.choosePivotCmpFunc[idshift/merge.place]",by decide,func174.trans (nV some (by kernel_rfl))⟩
 f24:=⟨ "slices.reverseRangeCmpFunc[idshift/merge.place]",by decide,func175.trans (nV some (by kernel_rfl))⟩
 f25:=⟨ "slices.partialInsertionSortCmpFunc[idshift/merge.place]",by decide,func176.trans (nV some (by kernel_rfl))⟩
 f26:=⟨ "slices.partitionEqualCmpFunc[idshift/merge.place]",by decide,func177.trans (nV some (by kernel_rfl))⟩
 f27:=⟨ "slices.partitionCmpFunc[idshift/merge.place]",by decide,func178.trans (nV some (by kernel_rfl))⟩
 f28:=func179.trans (nV some (by kernel_rfl))
 f29:=func180.trans (nV some (by kernel_rfl))
 f46:=⟨ "slices.siftDownCmpFunc[idshift/merge.place]",by decide,func188.trans (nV some (by kernel_rfl))⟩
 f47:=func189.trans (nV some (by kernel_rfl))
 f48:=func190.trans (nV some (by kernel_rfl))
 f49:=⟨ "slices.medianAdjacentCmpFunc[idshift/merge.place]",by decide,func191.trans (nV some (by kernel_rfl))⟩
 f50:=⟨ "slices.medianCmpFunc[idshift/merge.place]",by decide,func192.trans (nV some (by kernel_rfl))⟩
 f57:=⟨ "slices.order2CmpFunc[idshift/merge.place]",by decide,func200.trans (nV some (by kernel_rfl))⟩
 t0:=underlying0
 a0:=Tryz.isAgg0
 z0:=Tryz.sizeOf0
 v0:=Tryz.zeroValue0
 t3:=underlying3
 a3:=Tryz.isAgg3
 z3:=Tryz.sizeOf3
 v3:=Tryz.zeroValue3
 t4:=underlying4
 a4:=Tryz.isAgg4
 z4:=Tryz.sizeOf4
 v4:=Tryz.zeroValue4
 t5:=underlying5
 a5:=Tryz.isAgg5
 z5:=Tryz.sizeOf5
 v5:=Tryz.zeroValue5
 t9:=underlying9
 a9:=Tryz.isAgg9
 z9:=Tryz.sizeOf9
 v9:=Tryz.zeroValue9
 t22:=underlying125
 a22:=Tryz.isAgg125
 z22:=Tryz.sizeOf125
 v22:=Tryz.zeroValue125
 t25:=underlying180
 a25:=Tryz.isAgg180
 z25:=Tryz.sizeOf180
 v25:=Tryz.zeroValue180
 t39:=underlying201
 a39:=Tryz.isAgg201
 z39:=Tryz.sizeOf201
 v39:=Tryz.zeroValue201
 t45:=underlying219
 a45:=Tryz.isAgg219
 z45:=Tryz.sizeOf219
 v45:=Tryz.zeroValue219
 t46:=underlying220
 a46:=Tryz.isAgg220
 z46:=Tryz.sizeOf220
 v46:=Tryz.zeroValue220
 t50:=underlying70
 a50:=Tryz.isAgg70
 z50:=Tryz.sizeOf70
 v50:=Tryz.zeroValue70
 t53:=underlying226
 a53:=Tryz.isAgg226
 z53:=Tryz.sizeOf226
 v53:=Tryz.zeroValue226
 t55:=underlying228
 a55:=Tryz.isAgg228
 z55:=Tryz.sizeOf228
 v55:=Tryz.zeroValue228
 t66:=underlying233
 a66:=Tryz.isAgg233
 z66:=Tryz.sizeOf233
 v66:=Tryz.zeroValue233
 t70:=underlying237
 a70:=Tryz.isAgg237
 z70:=Tryz.sizeOf237
 v70:=Tryz.zeroValue237
 t76:=underlying243
 a76:=Tryz.isAgg243
 z76:=Tryz.sizeOf243
 v76:=Tryz.zeroValue243
 t77:=underlying165
 a77:=Tryz.isAgg165
 z77:=Tryz.sizeOf165
 v77:=Tryz.zeroValue165}
end Go.Proofs.YtgppjbhaimmlpaaGreatDoor
namespace Go.Proofs.YtgppjbhaimmlpaaGreatDoor
open Go.RowKit Go.Shelf Go.Sort Go.Proofs.Tryz
instance:Inhabited Pe:=⟨⟨⟨#[]⟩,none,0,[]⟩⟩
def GZ(e:Pe):List Value:=[.string e.n,.slice e.a e.L.length e.c]
def Kj(x y:Pe):Int:=FO x.n y.n
theorem Mh(x y:Pe):ltOf Kj x y=AX x.n y.n:=by
 unfold ltOf Kj FO;cases h1:AX x.n y.n with
 |true=>rfl
 |false=>
  cases h2:AX y.n x.n with
  |true=>rfl
  |false=>rfl
theorem cM:SWO (ltOf Kj)where
 irrefl x:=by rw[Mh];exact Hn _
 trans x y z h1 h2:=by rw[Mh]at*;exact F5 h1 h2
 ntrans x y z h1 h2:=by
  rw[Mh]at*;cases h:AX x.n z.n with
  |false=>rfl
  |true=>
   rcases It x.n y.n with e|e|e
   ·rw[h1]at e;cases e
   ·rw[←e,h]at h2;cases h2
   ·rw[F5 e h]at h2;cases h2
theorem Rd{w:World}{b:Nat}{F:List Pe}(h:DH w b F):HoldsK GZ 2 w b 0 F.toArray:=by
 intro j G;rw[size_flatK]at G;rw[get_flatK _ _ _ _ G];have H:j / 2<F.length:=by simp at G;omega
 obtain⟨c0,c1⟩:=h.cell (j / 2) F[j / 2] (np H);have I:F.toArray[j / 2]! =F[j / 2]:=by simp[H]
 rw[I];refine⟨?_,h.free _⟩;rw[nT];generalize F[j / 2]=x at c0 c1;rcases Nat.mod_two_eq_zero_or_one j with e|e
 ·rw[e]
  rw[show j / 2*2=j by omega]at c0;exact c0
 ·rw[e]
  rw[show j / 2*2+1=j by omega]at c1;exact c1
theorem al{w:World}{b F m:Nat}{d:Array Pe}{os:Array Obj}(k:Nat)(G:k<w.heap.size)(H:k≠b):(sortWorldK GZ 2 w b F m d os).heap[k]? =w.heap[k]?:=by
 unfold sortWorldK grow putRowK putRow mapBlock;show((w.heap.modify b _)++os)[k]? =_;rw[Array.getElem?_append_left (by rw[Array.size_modify];exact G),Array.getElem?_modify,nB (fun e=>H e.symm)]
theorem cP{w:World}{b F m:Nat}{d:Array Pe}{os:Array Obj}:Mv (fun k=>k=b) w (sortWorldK GZ 2 w b F m d os):=by
 refine⟨rfl,rfl,rfl,?_,fun k G H=>al k G H⟩;unfold sortWorldK grow putRowK putRow mapBlock;show _≤((w.heap.modify b _)++os).size;rw[Array.size_append,Array.size_modify];omega
theorem Yc{w:World}{b cap:Nat}{G:List Pe}(h:DH w b G)(a6:G.length≤1000):
 Calls prog 118 #[sL b 0 G.length cap,.func (.func 119) #[] #[]] w fun e w'=>e=.returned (.tuple #[])∧Mv (fun k=>k=b) w w'∧∃I:List Pe,I.Perm G∧I.Pairwise (fun a b=>AX b.n a.n=false)∧∀(i:Nat) e,I[i]? =some e→w'.cell? (aD b (i*2))=some (.string e.n)∧w'.cell? (aD b (i*2+1))=some (.slice e.a e.L.length e.c):=by
 have Z:=enters_of func119 (by kernel_rfl) rfl;have aa:CmpLays prog 119 #[] GZ 2 Kj b 0 G.toArray.size w:=fun m os a7 _ x y=>by
  refine(Xc x.n y.n x.a y.a x.L.length x.c y.L.length y.c _).mono ?_;rintro e w' ⟨rfl,rfl⟩;exact⟨rfl,0,_,by rw[alloc_eq_grow,alloc_eq_grow,grow_grow];rfl⟩
 have ab:=AnyQ.slices_SortFunc Tryz.sortL 2 Tryz.isAgg128 Tryz.sizeOf128 GZ (fun _=>rfl) (fun x v R=>by simp[GZ]at R;rcases R with rfl|rfl<;>rfl) Kj cM 119 #[] b 0 cap G.toArray w Z aa (Rd h) h.lt (by simp;omega);have ad:=ab;refine ad.mono ?_;rintro e w' ⟨rfl,F,n,os,ak,ao,rfl⟩;obtain⟨H,_,T⟩:=ak;have a8:F.size=G.length:=by rw[H];simp
 refine⟨rfl,cP,F.toList,?_,?_,fun i e J=>?_⟩
 ·have O:F.extract 0 G.toArray.size=F:=by rw[←H];simp
  have ap:G.toArray.extract 0 G.toArray.size=G.toArray:=by simp
  rw[O,ap]at T;exact T
 ·rw[rZ]
  intro i j J az a1;have V:j<F.size:=by simpa using az
  have:=ao i j (nM _) a1 (by rw[←H];exact V);rw[Mh]at this;rw[getElem!_pos F j V,getElem!_pos F i (by omega)]at this;simpa using this
 ·have Y:HoldsK GZ 2 (sortWorldK GZ 2 w b 0 n F os) b 0 F:=by
   unfold sortWorldK;refine holdsK_grow _ _ _ _ _ _ _ ?_ (holdsK_putRowK _ _ _ _ _ G.toArray _ (holdsK_ahead _ _ _ _ _ _ _ (Rd h)) H);show b<(putRowK GZ 2 (Go.Sort.ahead w n) b 0 F).heap.size;unfold putRowK putRow mapBlock;show b<(w.heap.modify b _).size;rw[Array.size_modify];exact h.lt
  have Q:i<F.size:=by have:=(nw.1 J).1;simpa using this
  have O:F[i]! =e:=by
   rw[getElem!_pos F i Q];have:=(nw.1 J).2;simpa using this
  have c0:=Y.cell Q (show 0<2 by omega);have c1:=Y.cell Q (show 1<2 by omega);rw[O]at c0 c1;simp only[nT,rT]at c0 c1;exact⟨c0.1,c1.1⟩
end Go.Proofs.YtgppjbhaimmlpaaGreatDoor
namespace Go.Proofs.YtgppjbhaimmlpaaGreatDoor
open Go.RowKit Go.Shelf Go.Proofs.Tryz
theorem Yi{A:World}{S:Nat→Bool}(V:∀k,S k=true→k<A.heap.size){a:Option Addr}{cap:Nat}{D:List Sp}(Y:Dx (Ag A.cell? S) a D)(Z:∀s∈D,Cx (Ag A.cell? S) s)(Q:D.length≤1000):
 Calls prog 51 #[.func (.func 151) #[] #[pO A.heap.size 0]] (A.alloc (.cells #[.slice a D.length cap] 100)) fun e B=>∃G F,e=.returned (.slice G (Bp D).length F)∧(Bp D).length≤F∧F≤9223372036854775807∧Dx (Ag B.cell? S) G (Bp D)∧Below A.heap.size A B:=by
 have H:Below A.heap.size A (A.alloc (.cells #[.slice a D.length cap] 100)):=bN;have R:=Aj H;have T:=Ci A.cell? S;have c0:Ce (A.alloc (.cells #[.slice a D.length cap] 100)) A.heap.size 0 (.slice a D.length cap):=aC;have aa:=V6 A.heap.size _ a cap D _ rfl c0 Q ((Y.on T).on R);refine(MX aa (enters_of func151 (by kernel_rfl) rfl) (fun s ab=>((Z s ab).on T).on R) Q).mono ?_;rintro e B ⟨G,F,rfl,ad,ak,J,ao,ap⟩;refine⟨G,F,rfl,ad,ak,?_,H.trans (ap.mono H.size)⟩;rcases J with e|⟨b,O,e,J⟩
 ·exact .inl e
 ·rcases ao with I|⟨g,a1,I,a6⟩
  ·exact .inl I
  ·rw[e]at I
   simp only[nU,rc]at I;refine .inr ⟨b,O,e,fun i d az=>?_⟩;have hb:S b=false:=by
    cases hh:S b with
    |false=>rfl
    |true=>have:=V b hh;have:=H.size;omega
   rw[Co (show S ((aD b (O+i*2)):Addr).block=false from hb),Co (show S ((aD b (O+i*2+1)):Addr).block=false from hb)];exact J i d az
theorem WM(a:Option Addr)(cap:Nat)(w:World):
 Calls prog 152 #[.slice a 0 cap,.func (.func 117) #[] #[]] w fun e w'=>e=.returned (iN (-1))∧w=w':=by
 go_enter func152,ntmps152;go_wp2;go_loop [8] (fun i=>i=iN 0) (fun _=>0)
 case atStart=>rfl
 case round=>
  subst hrel;go_wp2;go_ret;exact⟨rfl,rfl⟩
theorem Y6(a:Option Addr)(cap:Nat)(w:World):
 Calls prog 116 #[.slice a 0 cap,.func (.func 117) #[] #[]] w fun e w'=>e=.returned (.slice a 0 cap)∧w=w':=by
 have F:Hid _:=WM a cap w;go_enter func116,ntmps116;go_wp2_with fail
 refine nn F.out ?_;rintro e G ⟨rfl,rfl⟩;go_wp2;go_ret;exact⟨rfl,rfl⟩
theorem WZ(a:Option Addr)(cap:Nat)(F:Value)(w:World):
 Calls prog 118 #[.slice a 0 cap,F] w fun e w'=>e=.returned (.tuple #[])∧w'=w:=AnyF.slices_SortFunc_none Tryz.sortL a cap F w
def O9(c:AJ)(v:Value)(M:List (BA×AU)):Prop:=∃(a:Option Addr) (cap:Nat) (F:List Pe),v=.slice a F.length cap∧F.length≤cap∧cap≤9223372036854775807∧
 (F=[]∨∃b,a=some ⟨b,0,none⟩∧∀(i:Nat) e,F[i]? =some e→c ⟨b,i*2,none⟩=some (.string e.n)∧c ⟨b,i*2+1,none⟩=some (.slice e.a e.L.length e.c))∧
 (∀e∈F,EP c (.slice e.a e.L.length e.c) (e.L.map Sp.pr))∧(Ck F).map Vs=M
structure Hf (c:AJ) (e:Pe):Prop where
 row:Dx c e.a e.L
 nh:∀s∈e.L,Cx c s
 cap:e.L.length≤e.c
 cap2:e.c≤9223372036854775807
 len:e.L.length≤1000
theorem Hf.on{c F:AJ}{e:Pe}(h:Hf c e)(hb:AR c F):Hf F e:=⟨h.row.on hb,fun s G=>(h.nh s G).on hb,h.cap,h.cap2,h.len⟩
theorem Hf.spl{c:AJ}{e:Pe}(h:Hf c e):EP c (.slice e.a e.L.length e.c) (e.L.map Sp.pr):=⟨e.a,e.c,e.L,rfl,h.cap,h.cap2,h.row,h.nh,rfl⟩
theorem DH.set1{w:World}{b:Nat}{G:List Pe}(h:DH w b G){i:Nat}{o:Pe}(H:G[i]? =some o)(e:Pe)(I:e.n=o.n):DH (w.setCell (aD b (i*2+1)) (.slice e.a e.L.length e.c)) b (G.set i e):=by
 obtain⟨J,O⟩:=h.cell i o H;have Q:=(nw.1 H).1;refine⟨fun j f F=>?_,fun j=>by rw[rJ];exact h.free j,by rw[World.size_setCell];exact h.lt⟩;rw[rP]at F;split at F
 ·rename_i e1
  subst e1;cases F;refine⟨?_,nH _ _ _ O⟩;rw[nz _ _ _ _ (by simp),I];exact J
 ·rename_i e1
  obtain⟨q1,q2⟩:=h.cell j f F;refine⟨?_,?_⟩
  ·rw[nz _ _ _ _ (fun e=>by have:=(Addr.mk.inj e).2.1;omega)];exact q1
  ·rw[nz _ _ _ _ (fun e=>by have:=(Addr.mk.inj e).2.1;omega)];exact q2
theorem YF(F:List Pe):Ck (Dq F)=(Ck F).filter fun p=> !p.2.isEmpty:=by
 unfold Ck Dq;rw[List.filter_map];rfl
def Il(p:BA×List Sp):BA×List Sp:=(p.1,Bp p.2)
theorem aV{A:Fx}{j:Nat}{p:BA×List Sp}(h:A[j]? =some p):((A.take j).map Il++A.drop j).set j (Il p)=(A.take (j+1)).map Il++A.drop (j+1):=by
 obtain⟨F,e⟩:=nw.1 h;have G:((A.take j).map Il).length=j:=by rw[rk,rF];omega
 rw[List.set_append_right _ _ (by omega),G,Nat.sub_self,nN F,List.set_cons_zero,rv,h,rA];simp
end Go.Proofs.YtgppjbhaimmlpaaGreatDoor
