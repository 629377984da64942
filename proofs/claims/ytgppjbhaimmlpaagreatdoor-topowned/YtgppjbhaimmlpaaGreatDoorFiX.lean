/-
  TopOwned: Fi Fp Fw Ga Ge Xa Xh Ca Cg.
-/
import Derived.Test.YtgppjbhaimmlpaaGreatDoorApX
import Derived.Test.YtgppjbhaimmlpaaGreatDoorFbX
import Derived.Deep.RegionLaw
import Derived.Deep.Cut
import Derived.Test.YtgppjbhaimmlpaaGreatDoorUcX
import Derived.Test.YtgppjbhaimmlpaaGreatDoorKbX
import Derived.Test.YtgppjbhaimmlpaaGreatDoorWoX
import Derived.Test.YtgppjbhaimmlpaaGreatDoorMaX
import Derived.Deep.RegionHeld3
import Derived.Lib.SliceRun
import Derived.Test.YtgppjbhaimmlpaaGreatDoorWrX
import Derived.WalkKit
import Derived.WalkSpells
import Derived.WalkLawsBesides
set_option maxRecDepth 100000
set_option maxHeartbeats 16000000
namespace Go.Proofs.YtgppjbhaimmlpaaGreatDoor
open Go.RowKit Go.Maps Go.Proofs.Tryz
theorem KA{F:Type}{l:List F}{n:Nat}{x:F}(h:l[n]? =some x):l.take (n+1)=l.take n++[x]:=by rw[rv,h];rfl
theorem WW{w:World}{S:Nat→Bool}(fi:∀k,S k=true→k<w.heap.size){eo:Option Addr}{vc:Nat}{D:List Sp}(g3:Dx (Ag w.cell? S) eo D)(g4:∀s∈D,Cx (Ag w.cell? S) s)(fj:∀(i j:Nat) a b,D[i]? =some a→D[j]? =some b→i≠j→a.ly≠b.ly)(fl:∀s∈D,AB s.x)(gC:tot (D.map Sp.pr)≤1000):
 Calls prog 68 #[.slice eo D.length vc] w fun e w'=>∃v,e=.returned v∧O9 (Ag w'.cell? S) v ((DF (D.map Sp.pr)).map fun nm=>(nm,Cv (D.map Sp.pr) nm))∧Below w.heap.size w w':=by
 obtain⟨K,d2,d3⟩:=aB g4;have gD:=bU d2 d3;have d4:Hid (K.length=D.length):=d2;have d5:Hid (∀nm,(Dh nm K []).map Sp.pr=Bc nm (D.map Sp.pr)):=aS d2 d3;have ep:Hid _:=fi;have cA:Hid _:=d3;have eq:Hid _:=g3.on (Ci _ _);have er:Hid _:=g4;have es:Hid _:=fj;have eu:Hid _:=fl;have hG:kc K≤1000:=by omega
 have gE:D.length≤1000:=by have:=Ln (D.map Sp.pr);rw[rk]at this;omega
 obtain⟨N,d6⟩:∃N,Hid (D.length=N):=⟨_,rfl⟩;obtain⟨gG,fm,fo,b6,fp⟩:=Eb Tryz.infoP;obtain⟨gH,fq,fs,ft,fu⟩:=Eb Tryz.infoSp;have gI:Hid _:=fm;have gJ:Hid _:=fo;have gK:Hid _:=b6;have gL:Hid _:=fp;have gM:Hid _:=fq;have gN:Hid _:=fs;have gO:Hid _:=ft;have gP:Hid _:=fu;have gQ:=@run_makeMap prog;have fv:Em w (w.alloc (.map #[] 0)) w.heap.size (.slice none 0 0) []:=Em.start ((nt _ _).alloc (nl _) _) (nl _) (World.ownsMap_made w prog 9 (plainElem prog 3)) YK;rw[d6.out]at gE⊢;generalize D.map Sp.pr=d7 at d5⊢;clear fi g3 g4 fj fl d3 gD gC d2 fm fo b6 fp fq fs ft fu;go_enter func68,ntmps68;go_wp2;clear gQ;go_loopw [4,18] (fun v i wr=>∃(j:Nat) (E:List Pe),j≤N∧i=.int .i64 j∧Hid (Dn (Ck E) (K.take j) []∧Ds E≤kc (K.take j))∧Hid (Em w wr w.heap.size v E)) (fun _ i _=>N-(intOf i).toNat)
 case atStart=>exact⟨0,[],nM _,rfl,⟨Dn.start,nM _⟩,fv⟩
 case round=>
  obtain⟨j,E,hH,rfl,T,Y⟩:=hrel;clear fv;by_cases gR:j<N;rotate_left
  ·have gS:decide ((j:Int)<(N:Int))=false:=nA (by omega)
   have b0:Hid (Dn (Ck E) K []∧Ds E≤1000):=by
    have I:=T.out;rw[n1 (by rw[d4.out,d6.out];omega)]at I;exact⟨I.1,by omega⟩
   obtain⟨bn,uc,ev,eB,eE,fw⟩:=Ei Y.out.row;subst ev;have fx:E.length≤1000:=by have:=Oe Y.out.ne;have:=b0.out.2;omega
   have cB:=Y.out.low;rcases List.eq_nil_or_concat E with rfl|⟨hI,hJ,fy⟩
   ·have gT:Hid ((DF d7).map (fun nm=>(nm,Cv d7 nm))=[]):=by
     have:=P7 (PL:=[]) b0.out.1 d5.out (List.Perm.refl _) List.Pairwise.nil;exact this.symm
    have c3:Hid (∀W:World,Calls prog 116 #[.slice bn 0 uc,.func (.func 117) #[] #[]] W fun e w'=>e=.returned (.slice bn 0 uc)∧W=w'):=fun W=>Y6 bn uc W;have c4:Hid (∀W:World,Calls prog 118 #[.slice bn 0 uc,.func (.func 119) #[] #[]] W fun e w'=>e=.returned (.tuple #[])∧w'=W):=fun W=>WZ bn uc _ W
    clear T b0 Y fw d5 cA d4 eq er es eu fx;simp only[nQ]at eB⊢;go_wp2;go_loop [87] (fun i=>i=.int .i64 0) (fun _=>0)
    case atStart=>rfl
    case round=>
     subst hrel;go_wp2_with fail
     refine nn (c3.out _) ?_;rintro e eF ⟨rfl,rfl⟩;go_wp2_with fail
     refine nn (c4.out _) ?_;rintro e eF ⟨rfl,rfl⟩;go_wp2;go_ret;exact⟨_,rfl,⟨bn,uc,[],rfl,eB,eE,.inl rfl,fun e H=>(by cases H),by rw[gT.out];rfl⟩,cB⟩
   have fA:E≠[]:=by rw[fy];simp
   rcases fw with⟨_,gU,_⟩|⟨F,gV,eG,d8,b7,c5⟩
   ·exact absurd (nW gU) fA
   subst gV;have fB:∀k,(S k||k==F)=true→k<wr.heap.size:=fun k ak=>by
    simp at ak;rcases ak with q|q
    ·have:=ep.out k q;have:=cB.size;omega
    ·omega
   have b1:Hid _:=fB;have fC:DH wr F E:=⟨fun i e b9=>⟨b7 _ _ (LI E i e b9).1,b7 _ _ (LI E i e b9).2⟩,c5,d8⟩;have fD:AR (Ag w.cell? S) (Ag wr.cell? (fun k=>S k||k==F)):=Cb fun k ak Q=>⟨by simp[Q];omega,cB.block k ak⟩;have fE:∀e∈E,Hf (Ag wr.cell? (fun k=>S k||k==F)) e:=fun e H=>by
    have bo:=Y.out.each e H;obtain⟨hK,hL,G,I,cb,bb,fF⟩:=Jc bo;simp only[ro,true_and]at G;obtain⟨G,a1⟩:=G;obtain⟨g,eH,hM,hN⟩:=Gb bo (ri.2 (Y.out.ne e H));have gW:g≠F:=fun q=>by
     rcases J4 (show 128≠104 by decide) Y.out.row bo with q1|q1
     ·cases q1
     ·exact q1 (by rw[eH];show some F=some g;rw[q])
    refine⟨?_,fun s Q=>?_,by rw[a1];exact I,by rw[a1];exact cb,by have:=NH H;have:=b0.out.2;omega⟩
    ·rcases bb with q|⟨hO,hP,q,bb⟩
     ·exact .inl q
     ·rw[←G,eH]at q
      simp only[nU,rc]at q;obtain⟨rfl,rfl,_⟩:=q;have fG:(S g||g==F)=false:=by
       simp[gW];cases cf:S g with
       |false=>rfl
       |true=>have:=ep.out g cf;omega
      refine .inr ⟨g,0,eH,fun i d b9=>?_⟩;rw[Co (S:=fun k=>S k||k==F) (q:=⟨g,0+i*2,none⟩) fG,Co (S:=fun k=>S k||k==F) (q:=⟨g,0+i*2+1,none⟩) fG];exact bb i d b9
    ·have fH:=(b0.out.1.eq (e.n,e.L) (rx.2 ⟨e,H,rfl⟩)).1
     simp only at fH;rw[fH]at Q;unfold Dh at Q;rcases rd.1 Q with Q|Q
     ·obtain⟨hQ,gX,ao⟩:=rC.1 Q
      obtain⟨bp,ab⟩:=n5 gX;have fI:=(nw.1 ab).1;obtain⟨bd,d9⟩:∃bd,D[bp]? =some bd:=⟨_,np (by rw[←d4.out];exact fI)⟩;obtain⟨gY,c6,c8⟩:=cA.out bp bd d9;rw[ab]at c6;cases c6;obtain⟨bA,bB⟩:=n5 (K3 ao);have c9:=(nw.1 bB).1;obtain⟨a7,da⟩:∃a7,bd.x.dirKs[bA]? =some a7:=⟨_,np (by rw[←c8.1];exact c9)⟩;obtain⟨_,_,eI,_,bs,_,_,_,_,_,gZ⟩:=c8.2 bA a7 da;rw[bB]at bs;simp only[nU,Prod.mk.injEq]at bs;obtain⟨_,rfl⟩:=bs;exact gZ.on fD
     ·cases Q
   have bu:Hid _:=fE;have bC:Hid _:=fC;obtain⟨a8,bF⟩:∃a8,Hid (E.length=a8):=⟨_,rfl⟩;have g0:Hid (Dn (Ck E) K []):=b0.out.1;rw[bF.out]at eB fx⊢;clear T b0 Y b7 c5 fB fC fE fD cA d4 eq er es eu fy fA;go_wp2;go_loopw [87] (fun i wr=>∃(j:Nat) (Z:List Pe),j≤a8∧i=.int .i64 j∧Z.length=a8∧Hid (Ck Z=((Ck E).take j).map Il++(Ck E).drop j)∧Hid (DH wr F Z)∧Hid (∀e∈Z,Hf (Ag wr.cell? (fun k=>S k||k==F)) e)∧Hid (∀k,(S k||k==F)=true→k<wr.heap.size)∧Below w.heap.size w wr) (fun i _=>a8-(intOf i).toNat)
   case atStart=>exact⟨0,E,nM _,rfl,bF.out,by show _=_;simp,bC.out,bu.out,b1.out,cB⟩
   case round=>
    clear bC bu b1 cB d8;obtain⟨q,Z,be,rfl,fJ,T,bC,bu,b1,cg⟩:=hrel;by_cases hR:q<a8
    ·have g2:decide ((q:Int)<(a8:Int))=true:=nE (by omega)
     have hS:(q:Int)<(a8:Int):=by omega
     obtain⟨e,H⟩:∃e,Z[q]? =some e:=⟨_,np (by omega)⟩;have db:=bu.out e (nD H);have c1:=(bC.out.cell q e H).2;have fK:Hid _:=Yi (cap:=e.c) b1.out db.row db.nh db.len;have fL:Hid _:=Wt wr e.a e.L.length e.c;have eJ:Hid (Z[q]? =some e):=H;have eK:Hid (Hf (Ag wr.cell? (fun k=>S k||k==F)) e):=db;clear H db;go_wp2_with fail
     refine nn fL.out ?_;rintro g5 eF ⟨rfl,rfl⟩;go_wp2_with fail
     refine nn fK.out ?_;rintro g6 ba ⟨a2,bv,rfl,I,cb,bb,bx⟩;have ea:=bC.out.below bx;have c2:=(ea.cell q e eJ.out).2;have eb:=ea.free (q*2+1);have g7:Hid _:=ea.set1 eJ.out ⟨e.n,a2,bv,Bp e.L⟩ rfl;have eL:AR (Ag wr.cell? (fun k=>S k||k==F)) (Ag (ba.setCell ⟨F,q*2+1,none⟩ (.slice a2 (Bp e.L).length bv)).cell? (fun k=>S k||k==F)):=Cb fun k ak Q=>⟨Q,by rw[re _ _ _ _ (by simp at Q;exact Q.2)];exact bx.block k ak⟩;have fM:AR (Ag ba.cell? (fun k=>S k||k==F)) (Ag (ba.setCell ⟨F,q*2+1,none⟩ (.slice a2 (Bp e.L).length bv)).cell? (fun k=>S k||k==F)):=Cb fun k ak Q=>⟨Q,by rw[re _ _ _ _ (by simp at Q;exact Q.2)]⟩
     have g8:Hid (∀f∈Z.set q ⟨e.n,a2,bv,Bp e.L⟩,Hf (Ag (ba.setCell ⟨F,q*2+1,none⟩ (.slice a2 (Bp e.L).length bv)).cell? (fun k=>S k||k==F)) f):=fun f eM=>by
      obtain⟨bp,ab⟩:=n5 eM;rw[rP]at ab;split at ab
      ·split at ab
       ·cases ab
        exact⟨bb.on fM,fun s Q=>(eK.out.nh s (SV _ s Q)).on eL,I,cb,by have:=bq e.L;have:=eK.out.len;show(Bp e.L).length≤1000;omega⟩
       ·cases ab
      ·exact(bu.out f (nD ab)).on eL
     have g9:Hid (Ck (Z.set q ⟨e.n,a2,bv,Bp e.L⟩)=((Ck E).take (q+1)).map Il++(Ck E).drop (q+1)):=by
      show _=_;have ha:(Ck E)[q]? =some (e.n,e.L):=by
       have G:=NW eJ.out;rw[T.out,rm (by rw[rk,rF];omega),rM]at G;have a1:((List.take q (Ck E)).map Il).length=q:=by
        rw[rk,rF];have:(Ck E).length=a8:=by unfold Ck;rw[rk];exact bF.out
        omega
       rw[a1,Nat.sub_self,rT]at G;exact G
      rw[TH,T.out];exact aV ha
     have hc:Hid (∀k,(S k||k==F)=true→k<(ba.setCell ⟨F,q*2+1,none⟩ (.slice a2 (Bp e.L).length bv)).heap.size):=fun k ak=>by rw[World.size_setCell];exact nG (b1.out k ak) bx.size
     have he:=(cg.trans (bx.mono cg.size)).setCell (p:=⟨F,q*2+1,none⟩) eG (.slice a2 (Bp e.L).length bv);clear eL fM bb bx ea fK fL eK bu bC T b1 cg c1;go_wp2;go_roundw
     case rel=>exact⟨q+1,Z.set q ⟨e.n,a2,bv,Bp e.L⟩,by omega,by go_num,by rw[List.length_set];exact fJ,g9.out,g7.out,g8.out,hc.out,he⟩
     case measure=>(simp[intOf];try omega)
    ·have g2:decide ((q:Int)<(a8:Int))=false:=nA (by omega)
     have fN:Hid (Ck Z=(Ck E).map Il):=by
      show _=_;have hT:(Ck E).length=a8:=by unfold Ck;rw[rk];exact bF.out
      rw[T.out,n1 (by omega),n7 (by omega),rQ]
     have c3:Hid _:=Zo (cap:=uc) bC.out (by omega) (fun e H=>(bu.out e H).len) (by omega) eE;rw[fJ]at c3;clear T;go_wp2_with fail
     refine nn c3.out ?_;rintro g5 eF ⟨rfl,fO,eN⟩;have fP:(Dq Z).length≤1000:=by have I:(Dq Z).length≤Z.length:=List.length_filter_le _ _;omega
     have hf:Hid ((Dq Z).length≤uc):=by show _≤_;have I:(Dq Z).length≤Z.length:=List.length_filter_le _ _;omega
     have c4:Hid _:=Yc (cap:=uc) fO fP;have fQ:Hid _:=eN;obtain⟨ec,eO⟩:∃ec,Hid ((Dq Z).length=ec):=⟨_,rfl⟩;rw[eO.out]at c4⊢;clear c3 fO eN fP;go_wp2_with fail
     refine nn c4.out ?_;rintro g6 ba ⟨rfl,fR,eP,bf,Q,dd⟩;have eQ:=fQ.out.trans fR;have hg:Below w.heap.size w ba:=cg.trans (eQ.below cg.size (fun k ak=>by rw[ak];exact eG));have fS:AR (Ag wr.cell? (fun k=>S k||k==F)) (Ag ba.cell? S):=Cb fun k ak Q=>⟨by simp at Q;exact Q.1,eQ.block k ak (by simp at Q;exact Q.2)⟩;have fT:S F=false:=by
      cases cf:S F with
      |false=>rfl
      |true=>have:=ep.out F cf;omega
     have hh:Hid (O9 (Ag ba.cell? S) (.slice (some ⟨F,0,none⟩) ec uc) ((DF d7).map fun nm=>(nm,Cv d7 nm))):=by
      have fU:eP.length=ec:=by rw[bf.length_eq];exact eO.out
      refine⟨some ⟨F,0,none⟩,uc,eP,by rw[fU],by rw[fU,←eO.out];exact hf.out,eE,.inr ⟨F,rfl,fun i e b9=>?_⟩,fun e H=>?_,?_⟩
      ·rw[Co (q:=⟨F,i*2,none⟩) fT,Co (q:=⟨F,i*2+1,none⟩) fT];exact dd i e b9
      ·have I:e∈Dq Z:=bf.mem_iff.1 H
       exact((bu.out e (List.mem_filter.1 I).1).on fS).spl
      ·refine P7 g0.out d5.out ?_ ?_
       ·have I:(Ck eP).Perm (Ck (Dq Z)):=bf.map _
        rw[YF,fN.out]at I;exact I
       ·unfold Ck
        rw[List.pairwise_map];exact Q
     clear c4 fQ fR bf Q dd eQ fS bu bC fN b1 cg;go_wp2;go_ret;exact⟨_,rfl,hh.out,hg⟩
  have gS:decide ((j:Int)<(N:Int))=true:=nE (by omega);obtain⟨d,hd⟩:∃d,D[j]? =some d:=⟨_,np (by rw[d6.out];exact gR)⟩;obtain⟨bg,eR,eS⟩:=cA.out j d hd;obtain⟨b,ed,rfl,fV⟩:∃b ed,eo=some ⟨b,ed,none⟩∧∀i d,D[i]? =some d→w.cell? ⟨b,ed+i*2,none⟩=some (.pointer (some ⟨d.b,d.p,none⟩))∧w.cell? ⟨b,ed+i*2+1,none⟩=some (.int .i64 d.ly):=by
   rcases eq.out with e|e
   ·subst e;simp at hd
   ·exact e
  obtain⟨eT,eU⟩:=fV j d hd;have de:=Y.out.low;have eT:=Aj de _ _ eT;have eU:=Aj de _ _ eU;have eV:Below wr.heap.size wr (wr.alloc (.cells #[.pointer (some ⟨d.b,d.p,none⟩),.int .i64 d.ly] 104)):=(nt _ _).alloc (nl _) _;obtain⟨c0,c1⟩:=GA wr (.pointer (some ⟨d.b,d.p,none⟩)) (.int .i64 d.ly) 104;have fW:=((er.out d (nD hd)).on (Ci _ _)).below (de.trans (eV.mono de.size));obtain⟨fX,hU,ee,fY⟩:=Xx fW;have hi:Hid (d.x.dirKs≠[]→fX=d.h.ak):=ee;have eW:Hid (Calls prog 103 #[.agg #[.pointer (some ⟨d.b,d.p,none⟩),.int .i64 d.ly]] (wr.alloc (.cells #[.pointer (some ⟨d.b,d.p,none⟩),.int .i64 d.ly] 104)) _):=fY;have fZ:Hid (D[j]? =some d):=hd;have ef:Hid (K[j]? =some bg∧Hg (Ag w.cell? S) d bg):=⟨eR,eS⟩;obtain⟨M,eX⟩:∃M,Hid (d.x.dirKs.length=M):=⟨_,rfl⟩;have f0:bg.length=M:=eS.1.trans eX.out;have eN:kc (K.take j)+M≤1000:=by have:=Z5 eR;omega
  have aa:Hid _:=Y.out.keep eV;clear eS eR hd fV fW ee fY de;rw[eX.out]at eW;go_wp2_with fail
  refine nn eW.out ?_;rintro e ba ⟨rfl,bx⟩;have bi:Hid _:=aa.out.keep bx;have eY:ba.heap[wr.heap.size]? =some (.cells #[.pointer (some ⟨d.b,d.p,none⟩),.int .i64 d.ly] 104 (0,0)):=(bx.block _ (by rw[nv];omega)).trans (heap_alloc_new wr _);have bF:Hid (∀e∈E,e.a≠some ⟨wr.heap.size,0,none⟩):=fun e H q=>by
   obtain⟨g,G,_,bb⟩:=Gb (Y.out.each e H) (ri.2 (Y.out.ne e H));rw[q]at G;simp only[nU,rc]at G;omega
  obtain⟨R,eZ⟩:∃R,Hid (wr.heap.size=R):=⟨_,rfl⟩;rw[eZ.out]at eY bF;rw[eZ.out];have f1:Hid _:=eY;clear eW aa Y eV c0 c1 eT eU bx eY;go_wp2;go_loopw [4,26] (fun v i wr=>∃(k:Nat) (E:List Pe),k≤M∧i=.int .i64 k∧Hid (Dn (Ck E) (K.take j) (bg.take k)∧Ds E≤kc (K.take j)+k)∧Hid (Em w wr w.heap.size v E)∧Hid (wr.heap[R]? =some (.cells #[.pointer (some ⟨d.b,d.p,none⟩),.int .i64 d.ly] 104 (0,0))∧∀e∈E,e.a≠some ⟨R,0,none⟩)) (fun _ i _=>M-(intOf i).toNat)
  case atStart=>exact⟨0,E,nM _,rfl,⟨T.out.1,T.out.2⟩,bi.out,f1.out,bF.out⟩
  case round=>
   clear T bi f1 bF eZ;obtain⟨k,E,ak,rfl,T,Y,dg⟩:=hrel;by_cases hj:k<M;rotate_left
   ·have hk:decide ((k:Int)<(M:Int))=false:=nA (by omega)
    have bG:Hid (Dn (Ck E) (K.take (j+1)) []∧Ds E≤kc (K.take (j+1))):=by
     have G:K.take (j+1)=K.take j++[bg]:=KA ef.out.1;have I:=T.out.1;rw[n1 (l:=bg) (by rw[f0];omega)]at I;rw[G];exact⟨I.dir,by rw[bt,f0];have:=T.out.2;omega⟩
    go_wp2;go_roundw
    case rel=>exact⟨j+1,E,by omega,by go_num,bG.out,Y.out⟩
    case measure=>(simp[intOf];try omega)
   have hk:decide ((k:Int)<(M:Int))=true:=nE (by omega);have hV:(k:Int)<(M:Int):=by omega
   obtain⟨⟨nm,y⟩,bf⟩:∃p,d.x.dirKs[k]? =some p:=⟨_,np (by rw[eX.out];exact hj)⟩;obtain⟨J,O,s,q1,q2,f2,q4,q5,q6,q7,hl⟩:=ef.out.2.2 k _ bf;have ee:fX=some ⟨J,O,none⟩:=(hi.out fun e=>by rw[e]at bf;simp at bf).trans q1;subst ee;have f3:nm.size≤maxLen:=by
    have I:=eu.out d (nD fZ.out);have cb:=KQ (nD bf);obtain⟨bp,bb⟩:=n5 cb;have fF:Bt d.x.kids:=by
     obtain⟨hW,hX,hY,⟨hZ,h0,h1,h2,h3,h4,h5,h6⟩,h'⟩:=d;rw[AB]at I;exact I.2.2
    have:=(J1 fF bb).1;unfold maxLen;omega
   have f4:Hid (nm.size≤maxLen):=f3;have eg:=Aj Y.out.low _ _ (Ci _ _ _ _ q7);have e0:∀(W:World),W.heap[R]? =some (.cells #[.pointer (some ⟨d.b,d.p,none⟩),.int .i64 d.ly] 104 (0,0))→W.cell? ⟨R,1,none⟩=some (.int .i64 d.ly):=fun W hm=>by simp[World.cell?,hm]
   have hn:Hid _:=e0;have ch:=e0 wr dg.out.1;have e1:Hid (bg[k]? =some (nm,s)):=q2;have dj:Hid (s.b=J∧s.p=O+k*9+1∧s.ly=d.ly):=⟨f2,q4,q5⟩;have f5:wr.drew.cell? ⟨J,O+k*9,none⟩=some (.string nm)∧wr.drew.cell? ⟨R,1,none⟩=some (.int .i64 d.ly):=⟨eg,ch⟩;have cl:∀o:Obj,Below wr.heap.size wr (wr.alloc o).drew:=fun o=>((nt _ wr).alloc (nl _) o).drew;have f7:(wr.alloc (.cells #[.pointer none,.int .i64 0] 104)).drew.cell? ⟨J,O+k*9,none⟩=some (.string nm)∧(wr.alloc (.cells #[.pointer none,.int .i64 0] 104)).drew.cell? ⟨R,1,none⟩=some (.int .i64 d.ly):=⟨Aj (cl _) _ _ eg,Aj (cl _) _ _ ch⟩
   have f8:(wr.alloc (.cells #[.pointer (some ⟨J,O+k*9+1,none⟩),.int .i64 d.ly] 104)).drew.cell? ⟨J,O+k*9,none⟩=some (.string nm)∧(wr.alloc (.cells #[.pointer (some ⟨J,O+k*9+1,none⟩),.int .i64 d.ly] 104)).drew.cell? ⟨R,1,none⟩=some (.int .i64 d.ly):=⟨Aj (cl _) _ _ eg,Aj (cl _) _ _ ch⟩;clear q1 q2 f2 q4 q5 q6 q7 hl bf f3 e0 eg ch;go_upto_region 10 with fail
   go_region_held3 (fun w'=>w'.cell? ⟨J,O+k*9,none⟩=some (.string nm)∧w'.cell? ⟨R,1,none⟩=some (.int .i64 d.ly)) (first|with_reducible exact f5|with_reducible exact f7|with_reducible exact f8) (fail)
   clear f5 f7 f8;have b6:=cl (.cells #[.pointer (some ⟨J,O+k*9+1,none⟩),.int .i64 d.ly] 104);have aa:Hid _:=Y.out.keep b6;have ap:Hid ((wr.alloc (.cells #[.pointer (some ⟨J,O+k*9+1,none⟩),.int .i64 d.ly] 104)).drew.heap[R]? =some (.cells #[.pointer (some ⟨d.b,d.p,none⟩),.int .i64 d.ly] 104 (0,0))∧∀e∈E,e.a≠some ⟨R,0,none⟩):=⟨(b6.block R (nI.1 dg.out.1).1).trans dg.out.1,dg.out.2⟩;obtain⟨bk,bl⟩:=GA wr (.pointer (some ⟨J,O+k*9+1,none⟩)) (.int .i64 d.ly) 104;have bk:(wr.alloc (.cells #[.pointer (some ⟨J,O+k*9+1,none⟩),.int .i64 d.ly] 104)).drew.cell? ⟨wr.heap.size,0,none⟩=some (.pointer (some ⟨J,O+k*9+1,none⟩)):=bk;have bl:(wr.alloc (.cells #[.pointer (some ⟨J,O+k*9+1,none⟩),.int .i64 d.ly] 104)).drew.cell? ⟨wr.heap.size,1,none⟩=some (.int .i64 d.ly):=bl;have dk:(wr.alloc (.cells #[.pointer (some ⟨J,O+k*9+1,none⟩),.int .i64 d.ly] 104)).drew.heap[wr.heap.size]? =some (.cells #[.pointer (some ⟨J,O+k*9+1,none⟩),.int .i64 d.ly] 104 (0,0)):=heap_alloc_new wr _;have dm:Hid (∀e∈E,e.a≠some ⟨wr.heap.size,0,none⟩):=fun e H q=>by
    obtain⟨g,G,_,bb⟩:=Gb (Y.out.each e H) (ri.2 (Y.out.ne e H));rw[q]at G;simp only[nU,rc]at G;omega
   have h7:Ds E≤1000:=by have:=T.out.2;omega
   have h8:E.length≤1000:=by have:=Oe Y.out.ne;omega
   obtain⟨co,cp⟩:∃co,Hid (wr.heap.size=co):=⟨_,rfl⟩;have f9:co≠w.heap.size:=by
    obtain⟨dn,I,_⟩:=Y.out.mp;have:=I.lt;have cb:=cp.out;omega
   rw[cp.out]at bk bl dm dk;rw[cp.out];generalize(wr.alloc (.cells #[.pointer (some ⟨J,O+k*9+1,none⟩),.int .i64 d.ly] 104)).drew=a6 at aa ap bk bl dk⊢;clear cl b6 Y dg;obtain⟨bn,uc,ev,_,_,_⟩:=Ei aa.out.row;subst ev;obtain⟨dn,ga,gb⟩:=aa.out.mp;have b2:Hid _:=ga;have b3:Hid _:=gb;clear ga gb;go_wp2_with (at_lookup;refine wpList_lookup_own_ok_int _ rfl _ _ 174 rfl 9 3 .i64 U1 underlying174 underlying3 (cv _) w.heap.size E.length dn rfl b2.out _ _ rfl (WideMaps.keyOf_string_mk underlying9 f4.out) ?_)
   intro c dd ho;have e2:Hid _:=dd;clear dd ho;rcases Classical.em (nm∈E.map (·.n))with cq|cq;rotate_left
   ·have dp:Maps.has dn (kN nm)=false:=by rw[(b3.out.2 nm).1,NJ cq];rfl
    rw[dp];have gd:Hid _:=cq;have hp:Hid ((Lit.int .i64 (E.length:Int)).wf=true):=WalkArith.wf_i64 (by omega);clear cq dp e2;go_wp2_with (at_mapUpdate;refine wpList_mapUpdate_own _ rfl _ _ _ 174 rfl 9 3 U1 underlying174 (plainElem prog 3) w.heap.size E.length dn rfl b2.out (by unfold maxLen;omega) _ _ _ rfl rfl (WideMaps.keyOf_string_mk underlying9 f4.out) _ [] (plainElem_int underlying3 hp.out) ?_)
    intro V gg cr;have gh:Hid _:=gg;have ej:Hid _:=cr;have t0:=cr.cell bk (by simpa using f9);have hq:=cr.cell bl (by simpa using f9);have dr:Hid (((V.alloc (.cells #[.pointer (some ⟨J,O+k*9+1,none⟩),.int .i64 d.ly] 104)).alloc (.cells #[.string nm,.slice (some ⟨V.heap.size,0,none⟩) 1 1] 128)).ownsRow w.heap.size 128 2 (.slice bn E.length uc) E.length (DQ E)):=((aa.out.row.kept cr (.inr (JU b2.out aa.out.row))).alloc _).alloc _;have ds:w.heap.size≤((V.alloc (.cells #[.pointer (some ⟨J,O+k*9+1,none⟩),.int .i64 d.ly] 104)).alloc (.cells #[.string nm,.slice (some ⟨V.heap.size,0,none⟩) 1 1] 128)).heap.size:=by rw[nv,nv];have:=aa.out.low.size;have:=cr.size;omega
    have du:Hid (∀q u,(DQ [⟨nm,some ⟨V.heap.size,0,none⟩,1,[s]⟩])[q]? =some u→((V.alloc (.cells #[.pointer (some ⟨J,O+k*9+1,none⟩),.int .i64 d.ly] 104)).alloc (.cells #[.string nm,.slice (some ⟨V.heap.size,0,none⟩) 1 1] 128)).cell? ((⟨V.heap.size+1,0,none⟩:Addr).add q)=some u):=by
     have:=Mw (V.alloc (.cells #[.pointer (some ⟨J,O+k*9+1,none⟩),.int .i64 d.ly] 104)) (.string nm) (.slice (some ⟨V.heap.size,0,none⟩) 1 1) 128;rw[nv]at this;exact this
    clear gg cr bk bl;go_wp2_with (at_builtin;refine Ea _ rfl (.tmp 53) (.tmp 58) 125 rfl w.heap.size 128 gG (.agg #[.string ⟨#[]⟩,.slice none 0 0]) 2 40 underlying125 gI.out gJ.out gK.out gL.out rfl (by decide) _ E.length (DQ E) rfl dr.out (some ⟨V.heap.size+1,0,none⟩) 1 1 (DQ [⟨nm,some ⟨V.heap.size,0,none⟩,1,[s]⟩]) rfl rfl (.inr ⟨_,rfl,du.out⟩) (SX _) (by unfold maxLen;omega) (by omega) ds ?_)
    intro v5 gi gj e3 hr;have dw:Hid (Em w gi w.heap.size v5 (E++[⟨nm,some ⟨V.heap.size,0,none⟩,1,[s]⟩])):=by
     obtain⟨G,a1,ao⟩:=dj.out;refine aa.out.new (s:=s) gh.out ?_ ej.out ?_ ?_
     ·have:=ZE b3.out gd.out
      rwa [rk]at this
     ·exact gj
     ·rw[G,a1,ao];exact e3
    have dx:Hid (gi.heap[R]? =some (.cells #[.pointer (some ⟨d.b,d.p,none⟩),.int .i64 d.ly] 104 (0,0))∧∀e∈E++[⟨nm,some ⟨V.heap.size,0,none⟩,1,[s]⟩],e.a≠some ⟨R,0,none⟩):=by
     have e4:=(nI.1 ap.out.1).1;have hs:R≠w.heap.size:=fun q=>by
      obtain⟨h9,ia,cf,_⟩:=b2.out;rw[←q,ap.out.1]at cf;cases cf
     have e5:some R≠(Value.slice bn E.length uc).ownBlock:=fun q=>by
      rcases aa.out.row.2 with⟨G,_⟩|⟨g,cap,ht,G,_,dy,_⟩
      ·rw[G]at q;cases q
      ·rw[G]at q
       simp[Value.ownBlock]at q;rw[←q,ap.out.1]at dy;simp at dy
     have ib:=ej.out.size;refine⟨?_,fun e H q=>?_⟩
     ·rw[e3.block R (by rw[nv,nv];omega) e5,rR _ _ _ (by rw[nv];omega),rR _ _ _ (by omega),ej.out.block R e4 (by simpa using hs)]
      exact ap.out.1
     ·rcases rd.1 H with H|H
      ·exact ap.out.2 e H q
      ·rw[rj]at H
       subst H;simp only[nU,rc]at q;omega
    have dz:Hid (Dn (Ck (E++[⟨nm,some ⟨V.heap.size,0,none⟩,1,[s]⟩])) (K.take j) (bg.take (k+1))∧Ds (E++[⟨nm,some ⟨V.heap.size,0,none⟩,1,[s]⟩])≤kc (K.take j)+(k+1)):=by
     rw[aA,KA e1.out,TF];exact⟨T.out.1.new (by rw[cI];exact gd.out),by have:=T.out.2;show _+1≤_;omega⟩
    clear gj e3 hr dr du t0 hq ds gh ej aa ap T b2 b3 dk dm cp;go_wp2;go_roundw
    case rel=>exact⟨k+1,_,by omega,by go_num,dz.out,dw.out,dx.out⟩
    case measure=>(simp[intOf];try omega)
   ·obtain⟨nh,ek,e6⟩:=Ue (i:=0) cq
    rw[nT]at ek;have dp:Maps.has dn (kN nm)=true:=by rw[(b3.out.2 nm).1,ek];rfl
    have hu:c=(nh:Int):=by
     have I:=(b3.out.2 nm).2;rw[e2.out,ek]at I;simpa using I
    rw[dp];subst hu;rw[n4]at e6;obtain⟨e,H,gl⟩:=nY.1 e6;have ic:=(nw.1 H).1;have cu:=nD H;obtain⟨F,hv,eG,d8⟩:=Gb aa.out.row (by omega);subst hv;obtain⟨el,ie,ig,ad⟩:=e;dsimp only at gl;subst gl;have bo:=aa.out.each _ cu;have e7:=ri.2 (aa.out.ne _ cu);dsimp only at bo e7;obtain⟨ge,hw,ih,ii⟩:=Gb bo e7;subst hw;obtain⟨_,_,be,_,_,hy⟩:=Ei aa.out.row;rcases hy with⟨q,_⟩|⟨_,q,_,_,b7,c5⟩
    ·simp only[ro]at be;rw[q]at be;cases be.1
    simp only[ro]at be;rw[q]at be;simp only[nU,rc]at be;obtain⟨⟨rfl,_⟩,hz⟩:=be;clear hz;have b4:=b7 _ _ (LI E nh _ H).2;dsimp only at b4;obtain⟨t,e8⟩:∃t,ad[ad.length-1]? =some t:=⟨_,np (by omega)⟩;have gm:ad.getLast? =some t:=by rw[List.getLast?_eq_getElem?];exact e8
    obtain⟨_,_,b5,_,_,hA⟩:=Ei bo;rcases hA with⟨q,_⟩|⟨_,q,_,_,go,_⟩
    ·simp only[ro]at b5;rw[q]at b5;cases b5.1
    simp only[ro]at b5;rw[q]at b5;simp only[nU,rc]at b5;obtain⟨⟨rfl,_⟩,hB⟩:=b5;clear hB;have e9:=go _ _ (Nx ad _ t e8).2;have fa:Hid _:=c5;have bG:Hid _:=H;have gp:Hid _:=bo;have fb:Hid _:=gm;have hC:ad.length≤Ds E:=NH cu;obtain⟨az,fc⟩:∃az,ad.length=az+1:=⟨ad.length-1,by omega⟩;have gq:Hid (ad.length=az+1):=fc;rw[fc]at b4 e9 hC;rw[Nat.add_sub_cancel]at e9;have ch:=hn.out a6 ap.out.1;have ij:IntKind.i64.wrap ((az:Int)+1-1)=(az:Int):=(Ez (by omega) (by omega)).trans (by omega);have ik:(nh:Int)<(E.length:Int):=by omega
    have il:(az:Int)<(az:Int)+1:=by omega
    have im:az<az+1:=by omega
    have gr:Hid (ge≠R):=fun q=>ap.out.2 _ cu (by rw[q]);have io:Hid (ge≠co):=fun q=>dm.out _ cu (by rw[q])
    clear cq ek e6 dp e2 b7 c5 go q e8 gm bo cu e7 H fc;go_upto_region 16 with fail
    by_cases fd:t.ly=d.ly
    ·have hD:((t.ly:Int)==(d.ly:Int))=true:=by rw[beq_iff_eq,fd]
     have dz:Hid (Dn (Ck E) (K.take j) (bg.take (k+1))∧Ds E≤kc (K.take j)+(k+1)):=by
      obtain⟨G,a1,ao⟩:=dj.out;rw[KA e1.out];refine⟨T.out.1.old (NW bG.out) fb.out (fd.trans ao.symm) fun q be r fe=>?_,by have:=T.out.2;omega⟩;obtain⟨bp,ab⟩:=n5 be;rw[rL]at ab;split at ab
      ·rename_i fI
       obtain⟨bd,d9⟩:∃bd,D[bp]? =some bd:=⟨_,np (by rw[d6.out];omega)⟩;obtain⟨gY,c6,c8⟩:=cA.out bp bd d9;rw[ab]at c6;cases c6;obtain⟨bA,bB⟩:=n5 fe;have c9:=(nw.1 bB).1;obtain⟨a7,da⟩:∃a7,bd.x.dirKs[bA]? =some a7:=⟨_,np (by rw[←c8.1];exact c9)⟩;obtain⟨_,_,eI,_,bs,_,_,eb,_⟩:=c8.2 bA a7 da;rw[bB]at bs;cases bs;show eI.ly≠s.ly;rw[eb,ao];exact es.out bp j bd d d9 fZ.out (by omega)
      ·cases ab
     have dw:Hid (∀q,Em w (a6.drewN q) w.heap.size (.slice (some ⟨F,0,none⟩) E.length uc) E):=fun q=>aa.out.keep (Ig (nt _ _) q);have dx:Hid _:=ap.out
     clear T aa ap b2 b3 gp fb bG fa dm cp dk;go_quiet (fail)
     go_wp2;go_roundw
     case rel=>exact⟨k+1,E,by omega,by go_num,dz.out,dw.out _,dx.out⟩
     case measure=>(simp[intOf];try omega)
    ·have hD:((t.ly:Int)==(d.ly:Int))=false:=by rw[beq_eq_false_iff_ne];omega
     go_quiet (fail)
     have gu:Below a6.heap.size a6 (a6.drewN nq):=Ig (nt _ _) nq;have bi:Hid _:=aa.out.keep gu;have cx:Hid ((a6.drewN nq).heap[R]? =some (.cells #[.pointer (some ⟨d.b,d.p,none⟩),.int .i64 d.ly] 104 (0,0))∧∀e∈E,e.a≠some ⟨R,0,none⟩):=ap.out;have bk:(a6.drewN nq).cell? ⟨co,0,none⟩=some (.pointer (some ⟨J,O+k*9+1,none⟩)):=bk;have bl:(a6.drewN nq).cell? ⟨co,1,none⟩=some (.int .i64 d.ly):=bl;have b4:(a6.drewN nq).cell? ⟨F,nh*2+1,none⟩=some (.slice (some ⟨ge,0,none⟩) (az+1) _):=b4;have ff:(a6.drewN nq).frozen? ⟨F,nh*2+1,none⟩=false:=fa.out _;have gv:F<(a6.drewN nq).heap.size:=d8;clear aa ap b2 b3 gp fa ch e9 dk dm cp gu;generalize a6.drewN nq=V at bi cx bk bl b4 ff gv⊢;have d0:=bi.out.each _ (nD bG.out);dsimp only at d0;rw[gq.out]at d0;have gw:F≠ge:=fun q=>by
      rcases J4 (show 128≠104 by decide) bi.out.row d0 with G|G
      ·cases G
      ·exact G (by show some F=some ge;rw[q])
     have dr:Hid _:=d0.alloc (.cells #[.pointer (some ⟨J,O+k*9+1,none⟩),.int .i64 d.ly] 104);have ds:w.heap.size≤(V.alloc (.cells #[.pointer (some ⟨J,O+k*9+1,none⟩),.int .i64 d.ly] 104)).heap.size:=by rw[nv];have:=bi.out.low.size;omega
     have du:Hid (∀q u,(Dp [s])[q]? =some u→(V.alloc (.cells #[.pointer (some ⟨J,O+k*9+1,none⟩),.int .i64 d.ly] 104)).cell? ((⟨V.heap.size,0,none⟩:Addr).add q)=some u):=by
      obtain⟨G,a1,ao⟩:=dj.out;have:=Mw V (.pointer (some ⟨J,O+k*9+1,none⟩)) (.int .i64 d.ly) 104;show∀q u,[Value.pointer (some ⟨s.b,s.p,none⟩),Value.int .i64 s.ly][q]? =some u→_;rw[G,a1,ao];exact this
     have gx:Hid (∀u∈Dp [s],u.oneCell'=true):=fun u gy=>by
      simp[Dp]at gy;rcases gy with rfl|rfl<;>rfl
     have gz:=Aj ((nt _ V).alloc (nl _) (.cells #[.pointer (some ⟨J,O+k*9+1,none⟩),.int .i64 d.ly] 104)) _ _ b4;have gA:=(((nt _ V).alloc (nl _) (.cells #[.pointer (some ⟨J,O+k*9+1,none⟩),.int .i64 d.ly] 104)).frozen (p:=⟨F,nh*2+1,none⟩) gv).trans ff;clear d0 b4 ff;go_wp2_with (at_builtin;refine Ea _ rfl (.tmp 77) (.tmp 79) 100 rfl w.heap.size 104 gH (.agg #[.pointer none,.int .i64 0]) 2 16 underlying100 gM.out gN.out gO.out gP.out rfl (by decide) _ (az+1) (Dp ad) rfl dr.out (some ⟨V.heap.size,0,none⟩) 1 1 (Dp [s]) rfl rfl (.inr ⟨_,rfl,du.out⟩) gx.out (by unfold maxLen;omega) (by omega) ds ?_)
     intro ip em fg d1 en;obtain⟨bH,bY,hE,_,_,_⟩:=Ei fg;subst hE;have iq:=d1.cell gz (by simpa [Value.ownBlock]using gw);have ir:em.frozen? ⟨F,nh*2+1,none⟩=false:=(World.frozen?_of_block (d1.block F (by rw[nv];omega) (by simpa [Value.ownBlock]using gw))).trans gA;have dw:Hid (Em w (em.setCell ⟨F,nh*2+1,none⟩ (.slice bH (az+1+1) bY)) w.heap.size (.slice (some ⟨F,0,none⟩) E.length uc) (E.set nh ⟨el,bH,bY,ad++[s]⟩)):=by
      obtain⟨G,a1,ao⟩:=dj.out;have fh:=gq.out;have I:=bi.out.add (s:=s) (a2:=bH) (c2:=bY) bG.out (W2:=em) (by show World.ownsRow _ _ _ _ (.slice bH (ad.length+1) bY) (ad.length+1) _;rw[fh];exact fg) (by rw[G,a1,ao];exact d1) (by rw[nv];dsimp only;rw[fh];exact en);dsimp only at I;rw[fh]at I;exact I
     have dx:Hid ((em.setCell ⟨F,nh*2+1,none⟩ (.slice bH (az+1+1) bY)).heap[R]? =some (.cells #[.pointer (some ⟨d.b,d.p,none⟩),.int .i64 d.ly] 104 (0,0))∧∀e∈E.set nh ⟨el,bH,bY,ad++[s]⟩,e.a≠some ⟨R,0,none⟩):=by
      have e4:=(nI.1 cx.out.1).1;have e5:R≠F:=fun q=>by
       rcases bi.out.row.2 with⟨G,_⟩|⟨g,cap,ht,G,_,dy,_⟩
       ·cases G
       ·simp only[ro,nU,rc]at G
        rw[←G.1.1,←q,cx.out.1]at dy;simp at dy
      refine⟨?_,fun f eM q=>?_⟩
      ·rw[re _ _ _ _ (by exact e5),d1.block R (by rw[nv];omega) (by simpa [Value.ownBlock]using fun q=>gr.out q.symm),rR _ _ _ e4]
       exact cx.out.1
      ·obtain⟨bp,ab⟩:=n5 eM
       rw[rP]at ab;split at ab
       ·cases ab
        dsimp only at q;subst q;simp only[Value.ownBlock,nU]at en;rcases en with q|q
        ·exact gr.out q.symm
        ·omega
       ·exact cx.out.2 f (nD ab) q
     have dz:Hid (Dn (Ck (E.set nh ⟨el,bH,bY,ad++[s]⟩)) (K.take j) (bg.take (k+1))∧Ds (E.set nh ⟨el,bH,bY,ad++[s]⟩)≤kc (K.take j)+(k+1)):=by
      obtain⟨G,a1,ao⟩:=dj.out;rw[TH,KA e1.out,TJ bG.out (by simp)];refine⟨T.out.1.add (NW bG.out) (fun iu gB q=>?_) (fun r fe=>?_),by have:=T.out.2;omega⟩
      ·rw[fb.out]at gB
       cases gB;exact fd (q.trans ao)
      ·rw[ao]
       obtain⟨bA,bB⟩:=n5 (List.mem_of_mem_take fe);have c9:=(nw.1 bB).1;obtain⟨a7,da⟩:∃a7,d.x.dirKs[bA]? =some a7:=⟨_,np (by rw[←ef.out.2.1];exact c9)⟩;obtain⟨_,_,eI,_,bs,_,_,eb,_⟩:=ef.out.2.2 bA a7 da;rw[bB]at bs;cases bs;exact eb
     clear fg d1 en dr du gx gz gA bi cx T ds bk bl;go_wp2;go_roundw
     case rel=>exact⟨k+1,_,by omega,by go_num,dz.out,dw.out,dx.out⟩
     case measure=>(simp[intOf];try omega)
end Go.Proofs.YtgppjbhaimmlpaaGreatDoor
namespace Go.Proofs.YtgppjbhaimmlpaaGreatDoor
open Go.RowKit Go.Shelf Go.Proofs.Tryz
structure IJ (l:AU):Prop where
 ne:l≠[]
 ly:(l.map (·.2)).Nodup
 lil:∀q∈l,AB q.1
 lim:∀q∈l,A7 q.1
 tot:tot l≤1000
 ids:∀q∈l,AM q.1
theorem Sr:∀l:AU,(DZ l).Sublist l
 |[]=>List.Sublist.refl _
 |q::r=>by
  rw[DZ];split
  ·exact List.nil_sublist _
  split
  ·exact List.Sublist.cons_cons _ (List.nil_sublist _)
  ·exact List.Sublist.cons_cons _ (Sr r)
theorem Ll(l:AU):(A8 l).Sublist l:=by
 cases l with
 |nil=>exact List.Sublist.refl _
 |cons q r=>
  rw[A8];split
  ·exact List.Sublist.cons_cons _ (List.nil_sublist _)
  ·exact Sr _
theorem M8(nm:BA):∀l:AU,((Bc nm l).map (·.2)).Sublist (l.map (·.2))
 |[]=>List.Sublist.refl _
 |q::r=>by
  have F:=M8 nm r;unfold Bc at F⊢;rw[rr];cases CV nm q.1 with
  |none=>exact List.Sublist.cons _ F
  |some y=>exact List.Sublist.cons_cons _ F
theorem TY{x y:Nd}{nm:BA}(h:AB x)(F:CV nm x=some y):AB y:=by
 rw[Jp]at F;obtain⟨i,G⟩:=n5 (KQ (Lg F));obtain⟨k,m,u,g,o,nh,d,ks⟩:=x;rw[AB]at h;exact(J1 h.2.2 G).2
theorem br{x y:Nd}{nm:BA}(h:A7 x)(F:CV nm x=some y):A7 y:=by
 rw[Jp]at F;obtain⟨i,G⟩:=n5 (KQ (Lg F));obtain⟨k,m,u,g,o,nh,d,ks⟩:=x;rw[A7]at h;exact J2 h.2.2 G
theorem NK{l:AU}{nm:BA}{q:Nd×Nat}(h:q∈Cv l nm):∃p∈l,CV nm p.1=some q.1:=by
 obtain⟨p,F,e⟩:=rC.1 (Hx _ _ h);obtain⟨y,G,rfl⟩:=nY.1 e;exact⟨p,F,G⟩
theorem IJ.next{l:AU}(h:IJ l){nm:BA}(H:Cv l nm≠[]):IJ (Cv l nm):=by
 refine⟨H,?_,fun q F=>?_,fun q F=>?_,?_,fun q F=>?_⟩
 ·exact(h.ly.sublist (M8 nm l)).sublist ((Ll _).map _)
 ·obtain⟨p,G,e⟩:=NK F
  exact TY (h.lil p G) e
 ·obtain⟨p,G,e⟩:=NK F
  exact br (h.lim p G) e
 ·have:=YC l nm;have:=h.tot;omega
 ·exact EO.sh (EO.kid h.ids nm) q F
theorem cY{D:List Sp}{l:AU}(h:D.map Sp.pr=l)(F:(l.map (·.2)).Nodup):∀(i j:Nat) a b,D[i]? =some a→D[j]? =some b→i≠j→a.ly≠b.ly:=by
 subst h;intro i j a b Q R T e;have V:(D.map (·.ly)).Nodup:=by rw[r4]at F;exact F
 have G:=rZ.1 V;obtain⟨H,I⟩:=nw.1 Q;obtain⟨J,O⟩:=nw.1 R;rcases Nat.lt_or_gt_of_ne T with q|q
 ·exact G i j (by simpa using H) (by simpa using J) q (by simp[I,O,e])
 ·exact G j i (by simpa using J) (by simpa using H) q (by simp[I,O,e])
end Go.Proofs.YtgppjbhaimmlpaaGreatDoor
namespace Go.Proofs.YtgppjbhaimmlpaaGreatDoor
open Go.RowKit Go.Proofs.Tryz
structure EW (xs:List Nd):Prop where
 lil:∀x∈xs,AB x
 tot:tot (BD xs)≤1000
 ids:∀x∈xs,AM x
theorem Jg{xs:List Nd}{q:Nd×Nat}(h:q∈BD xs):q.1∈xs:=by
 unfold BD at h;obtain⟨x,i⟩:=q;exact(List.mem_zipIdx' h).2▸List.getElem_mem _
theorem Tq:∀{l:AU} {q:Nd×Nat},q∈l→cnt q.1≤tot l
 |p::l,q,h=>by
  rw[tot];rcases nX.1 h with e|e
  ·rw[e];omega
  ·have:=Tq e;omega
theorem Rs(xs:List Nd):(BD xs).length=xs.length:=by unfold BD;rw[List.length_zipIdx]
theorem EW.len{xs:List Nd}(h:EW xs):xs.length≤1000:=by
 have F:=Ln (BD xs);rw[Rs]at F;have:=h.tot;omega
theorem EW.small{xs:List Nd}(h:EW xs):DC (BD xs):=⟨by rw[Rs];exact h.len,fun q F=>by have:=Tq F;have:=h.tot;omega⟩
theorem EW.lim{xs:List Nd}(h:EW xs):EZ (BD xs):=fun q F=>GB q.1 (h.small.2 q F) (h.lil _ (Jg F))
theorem EW.seen{xs:List Nd}(h:EW xs)(G:A8 (BD xs)≠[]):IJ (A8 (BD xs)):=by
 refine⟨G,?_,fun q F=>h.lil _ (Jg (Hx _ _ F)),fun q F=>h.lim q (Hx _ _ F),?_,fun q F=>h.ids _ (Jg (Hx _ _ F))⟩
 ·refine List.Nodup.sublist ((Ll _).map _) ?_
  unfold BD;rw[List.zipIdx_map_snd];exact List.nodup_range'
 ·have:=TE (BD xs);have:=h.tot;omega
theorem Wj(nf:List BA):∀{l:AU},(l≠[]→IJ l)→nf.foldl (fun l nm=>A8 (Bc nm l)) l≠[]→IJ (nf.foldl (fun l nm=>A8 (Bc nm l)) l):=by
 induction nf with
 |nil=>intro l h F;exact h F
 |cons nm nf H=>
  intro l h F;rw[rK]at F⊢;refine H (fun G=>?_) F;refine(h fun e=>G ?_).next (nm:=nm) G;rw[e];rfl
theorem EW.stack{xs:List Nd}(h:EW xs)(nf:List BA):AP xs nf≠[]→IJ (AP xs nf):=Wj nf h.seen
def Gi:AU→AU
 |[]=>[]
 |q::r=>if q.2=0 then r else q::r
def Ma(l:AU):Prop:=(l.map (·.2)).Pairwise (·<·)
theorem M5(nm:BA):∀{l:AU},(∀q∈l,q.2≠0)→ka true nm l=Bc nm l
 |[],_=>rfl
 |q::r,h=>by
  have F:=M5 nm (l:=r) fun p G=>h p (n2 _ G);unfold ka Bc at F⊢
  rw[rr,rr,F,nB (fun e=>h q (nJ ..) e.2)]
theorem Wh(nm:BA){l:AU}(h:Ma l):ka true nm l=Bc nm (Gi l):=by
 cases l with
 |nil=>rfl
 |cons q r=>
  unfold Ma at h;rw[rh,rq]at h;have H:∀p∈r,p.2≠0:=fun p F=>by have:=h.1 p.2 (rW F);omega
  rw[Gi];split
  ·rename_i e
   have I:=M5 nm H;unfold ka at I⊢;rw[rr,nC ⟨rfl,e⟩];exact I
  ·rename_i e
   exact M5 nm fun p F=>by
    rcases nX.1 F with G|G
    ·rw[G];exact e
    ·exact H p G
theorem Wg(xs:List Nd):∀nf:List BA,Ma (AP xs nf):=by
 intro nf;unfold AP;have F:Ma (A8 (BD xs)):=by
  refine List.Pairwise.sublist ((Ll _).map _) ?_;unfold BD;rw[List.zipIdx_map_snd];exact List.pairwise_lt_range'
 generalize A8 (BD xs)=l at F⊢;induction nf generalizing l with
 |nil=>exact F
 |cons nm nf G=>
  rw[rK];refine G _ ?_;exact List.Pairwise.sublist ((Ll _).map _) (List.Pairwise.sublist (M8 nm l) F)
theorem P3(xs:List Nd)(nf:List BA):∀i,i<nf.length→Ke true xs nf i=AP xs (nf.take i)
 |0,_=>rfl
 |i+1,h=>by
  have e:nf[i]? =some nf[i]:=np (by omega);rw[Ke,e,I5 e,←P3 xs nf i (by omega)];have hd:decide (i+1=nf.length)=false:=nA (by omega);simp[hd,YD]
def DX(xs:List Nd)(nf:List BA):Bool:=decide (0<nf.length)&& !(Ke true xs nf nf.length).isEmpty
theorem Qt{xs:List Nd}{nf:List BA}{n:Nat}{nm:BA}(F:nf.length=n+1)(G:nf[n]? =some nm):DX xs nf= !(A8 (Bc nm (Gi (AP xs (nf.take n))))).isEmpty:=by
 unfold DX;rw[F,Ke,G,P3 xs nf n (by omega)];have hd:decide (n+1=nf.length)=true:=nE (by omega);simp[hd,Wh nm (Wg xs (nf.take n))]
theorem Ky{l:AU}(h:DC l):DC (Gi l):=by
 cases l with
 |nil=>exact h
 |cons q r=>
  rw[Gi];split
  ·exact⟨by have:=h.1;rw[n3]at this;omega,fun p F=>h.2 p (n2 _ F)⟩
  ·exact h
theorem GS{b c:Bool}(h:b=c):Ending.returned (.bool b)=.returned (.bool c):=by rw[h]
theorem KE{w:World}{S:Nat→Bool}(bx:∀k,S k=true→k<w.heap.size){a:Option Addr}{cap:Nat}{xs:List Nd}{an:Option Addr}{nj:Nat}{nf:List BA}(hx:Ch (Ag w.cell? S) a xs)(bA:A0 (Ag w.cell? S) an nf)(bB:EW xs)(b0:nf.length≤1000)(b1:nf.length≤nj∧nj≤9223372036854775807):
 Calls prog 24 #[.slice a xs.length cap,.slice an nf.length nj] w fun e w'=>e=.returned (.bool (DX xs nf))∧Below w.heap.size w w':=by
 have az:Hid _:=bx;have bC:Hid _:=bA;have bF:Hid _:=hx;have a8:Hid _:=bB;obtain⟨N,a1⟩:∃N,Hid (nf.length=N):=⟨_,rfl⟩;rw[a1.out]at b1 b0⊢;clear bx bA hx bB;go_enter func24,ntmps24;cases N with
 |zero=>
  go_wp2;go_ret;refine⟨GS ?_,nt _ _⟩;unfold DX;rw[a1.out];rfl
 |succ n=>
  obtain⟨nm,ba⟩:∃nm,nf[n]? =some nm:=⟨_,np (by rw[a1.out];omega)⟩;have R:Hid _:=Qt (xs:=xs) a1.out ba;obtain⟨bf,bg,rfl,bi⟩:∃b ak,an=some ⟨b,ak,none⟩∧∀i s,nf[i]? =some s→Ag w.cell? S ⟨b,ak+i,none⟩=some (.string s):=by
   rcases bC.out with e|e
   ·subst e;simp at ba
   ·exact e
  have bG:(nf.take n).length=n:=by rw[rF,a1.out];omega
  have bk:Hid (Calls prog 50 #[.slice a xs.length cap,.slice (some ⟨bf,bg,none⟩) n nj] w fun e w'=>∃v,e=.returned v∧EP (Ag w'.cell? S) v (AP xs (nf.take n))∧Below w.heap.size w w'):=by
   have e:=SQ (cap:=cap) (nj:=nj) (an:=some ⟨bf,bg,none⟩) (nf:=nf.take n) az.out bF.out (.inr ⟨bf,bg,rfl,fun i s ao=>bi i s (by
    rw[rL]at ao;split at ao
    ·exact ao
    ·cases ao)⟩) a8.out.len (by omega) a8.out.small
   rw[bG]at e;exact e
  have bH:=Ci _ _ _ _ (bi n nm ba);have b9:IntKind.i64.wrap (((n+1:Nat):Int)-1)=(n:Int):=(Ez (by omega) (by omega)).trans (by omega);have cb:IntKind.i64.wrap ((n:Int)+1-1)=(n:Int):=(Ez (by omega) (by omega)).trans (by omega);have b2:(n:Int)≤(nj:Int):=by omega
  have cf:(0:Int)≤(n:Int):=by omega
  have b3:decide ((n:Int)+1=0)=false:=nA (by omega);have a6:Hid (DC (AP xs (nf.take n))):=Ms a8.out.small _;clear bi ba bG bC bF a8;generalize AP xs (nf.take n)=bl at bk R a6;go_wp2_with fail
  refine nn bk.out ?_;rintro e G ⟨v,rfl,b4,I⟩;obtain⟨bb,vc,D,rfl,g1,cg,g3,g4,Y⟩:=b4;have ch:=Aj I _ _ bH;have cl:(n:Int)<(n:Int)+1:=by omega
  have co:n<n+1:=by omega
  clear bH bk b3 b2;cases D with
  |nil=>
   have J:Dx (Ag G.cell? S) bb []:=g3;have q4:∀s∈([]:List Sp),Cx (Ag G.cell? S) s:=g4;have q5:([]:List Sp).map Sp.pr=Gi bl:=by rw[←Y];rfl
   clear g3 g4 Y;have F:Hid _:=JL (A:=G) (S:=S) (cap:=vc) (w:=(G.alloc (.cells #[.slice bb ([]:List Sp).length vc] 100)).alloc (.cells #[.string nm] 9)) (fun k Z=>nG (az.out k Z) I.size) nm J q4 (by rw[q5];exact Ky a6.out) rfl;rw[q5]at F;clear J q4 q5;go_wp2_with fail
   refine nn (JJ G bb ([]:List Sp).length vc nm) ?_;rintro e bn ⟨rfl,rfl⟩;go_wp2_with fail
   refine nn F.out ?_;rintro e bo ⟨v3,rfl,aa,ab⟩;obtain⟨a3,bp,H,rfl,_,_,_,_,O⟩:=aa;have Q:=I.trans (ab.mono I.size);cases H with
   |nil=>
    clear F;go_wp2;go_ret;exact⟨GS (by rw[R.out,←O];rfl),Q⟩
   |cons bs H=>
    have bd:decide ((H.length:Int)+1>0)=true:=nE (by omega);have bu:decide ((0:Int)<(H.length:Int)+1)=true:=nE (by omega);clear F;go_wp2;go_ret;exact⟨GS (by rw[R.out,←O];rfl),Q⟩
  |cons s D=>
   obtain⟨vb,vo,rfl,a7⟩:∃b ak,bb=some ⟨b,ak,none⟩∧∀i ap,(s::D)[i]? =some ap→Ag G.cell? S ⟨b,ak+i*2,none⟩=some (.pointer (some ⟨ap.b,ap.p,none⟩))∧Ag G.cell? S ⟨b,ak+i*2+1,none⟩=some (.int .i64 ap.ly):=by
    rcases g3 with e|e
    ·cases e
    ·exact e
   obtain⟨v0,be⟩:=a7 0 _ rfl;have be:=Ci _ _ _ _ be;rw[r3,rT]at be;obtain⟨V,T⟩:∃V,Hid (D.length=V):=⟨_,rfl⟩;have bd:decide ((V:Int)+1>0)=true:=nE (by omega);have cp:(0:Int)<(V:Int)+1:=by omega
   by_cases ad:s.ly=0
   ·have bv:(((s.ly:Nat):Int)==0)=true:=by rw[ad];rfl
    have bY:decide (((s.ly:Nat):Int)=0)=true:=nE (by omega);rw[ad]at be;have q4:∀s∈D,Cx (Ag G.cell? S) s:=fun t b5=>g4 t (n2 _ b5);have q5:D.map Sp.pr=Gi bl:=by
     rw[←Y,rh,Gi,nC (show(Sp.pr s).2=0 from ad)]
    have cq:Hid ((s::D).length=V+1):=by show _=_;rw[n3,T.out]
    simp only[n3]at g1;rw[T.out]at g1;by_cases b6:vc=1
    ·subst b6
     have J:Dx (Ag G.cell? S) (some ⟨vb,vo,none⟩) D:=.inl (nW (by rw[T.out];omega));obtain rfl:D=[]:=nW (by rw[T.out];omega);obtain rfl:V=0:=T.out.symm;clear g3 g4 Y a7 ad bv bY;simp only[n3,nQ];have F:Hid _:=JL (A:=G) (S:=S) (cap:=0) (w:=(G.alloc (.cells #[.slice (some ⟨vb,vo,none⟩) ([]:List Sp).length 0] 100)).alloc (.cells #[.string nm] 9)) (fun k Z=>nG (az.out k Z) I.size) nm J q4 (by rw[q5];exact Ky a6.out) rfl;rw[q5]at F;simp only[nQ]at F;clear J q4 q5;go_wp2_with fail
     refine nn (JJ G (some ⟨vb,vo,none⟩) 0 0 nm) ?_;rintro e bn ⟨rfl,rfl⟩;go_wp2_with fail
     refine nn F.out ?_;rintro e bo ⟨v3,rfl,aa,ab⟩;obtain⟨a3,bp,H,rfl,_,_,_,_,O⟩:=aa;have Q:=I.trans (ab.mono I.size);cases H with
     |nil=>
      clear F;go_wp2;go_ret;exact⟨GS (by rw[R.out,←O];rfl),Q⟩
     |cons bs H=>
      have bd:decide ((H.length:Int)+1>0)=true:=nE (by omega);have bu:decide ((0:Int)<(H.length:Int)+1)=true:=nE (by omega);clear F;go_wp2;go_ret;exact⟨GS (by rw[R.out,←O];rfl),Q⟩
    ·have J:Dx (Ag G.cell? S) (some ⟨vb,vo+2,none⟩) D:=.inr ⟨vb,vo+2,rfl,fun i ap ao=>by
      have b7:=a7 (i+1) ap (by simpa using ao);rw[show vo+2+i*2=vo+(i+1)*2 by omega];exact b7⟩
     clear g3 g4 Y a7 ad bv bY;simp only[n3];rw[T.out];have F:Hid _:=JL (A:=G) (S:=S) (cap:=(vc-1)) (w:=(G.alloc (.cells #[.slice (some ⟨vb,vo+2,none⟩) D.length (vc-1)] 100)).alloc (.cells #[.string nm] 9)) (fun k Z=>nG (az.out k Z) I.size) nm J q4 (by rw[q5];exact Ky a6.out) rfl;rw[q5]at F;rw[T.out]at F;clear J q4 q5;go_wp2_with fail
     refine nn (JJ G (some ⟨vb,vo+2,none⟩) V (vc-1) nm) ?_;rintro e bn ⟨rfl,rfl⟩;go_wp2_with fail
     refine nn F.out ?_;rintro e bo ⟨v3,rfl,aa,ab⟩;obtain⟨a3,bp,H,rfl,_,_,_,_,O⟩:=aa;have Q:=I.trans (ab.mono I.size);cases H with
     |nil=>
      clear F;go_wp2;go_ret;exact⟨GS (by rw[R.out,←O];rfl),Q⟩
     |cons bs H=>
      have bd:decide ((H.length:Int)+1>0)=true:=nE (by omega);have bu:decide ((0:Int)<(H.length:Int)+1)=true:=nE (by omega);clear F;go_wp2;go_ret;exact⟨GS (by rw[R.out,←O];rfl),Q⟩
   ·have bv:(((s.ly:Nat):Int)==0)=false:=by simp;omega
    have J:Dx (Ag G.cell? S) (some ⟨vb,vo,none⟩) (s::D):=g3;have q4:∀t∈s::D,Cx (Ag G.cell? S) t:=g4;have q5:(s::D).map Sp.pr=Gi bl:=by
     rw[←Y,rh,Gi,nB (show¬(Sp.pr s).2=0 from ad)]
    clear g3 g4 Y a7 ad;simp only[n3];rw[T.out];have F:Hid _:=JL (A:=G) (S:=S) (cap:=vc) (w:=(G.alloc (.cells #[.slice (some ⟨vb,vo,none⟩) (s::D).length vc] 100)).alloc (.cells #[.string nm] 9)) (fun k Z=>nG (az.out k Z) I.size) nm J q4 (by rw[q5];exact Ky a6.out) rfl;rw[q5]at F;simp only[n3]at F;rw[T.out]at F;clear J q4 q5;go_wp2_with fail
    refine nn (JJ G (some ⟨vb,vo,none⟩) (V+1) vc nm) ?_;rintro e bn ⟨rfl,rfl⟩;go_wp2_with fail
    refine nn F.out ?_;rintro e bo ⟨v3,rfl,aa,ab⟩;obtain⟨a3,bp,H,rfl,_,_,_,_,O⟩:=aa;have Q:=I.trans (ab.mono I.size);cases H with
    |nil=>
     clear F;go_wp2;go_ret;exact⟨GS (by rw[R.out,←O];rfl),Q⟩
    |cons bs H=>
     have bd:decide ((H.length:Int)+1>0)=true:=nE (by omega);have bu:decide ((0:Int)<(H.length:Int)+1)=true:=nE (by omega);clear F;go_wp2;go_ret;exact⟨GS (by rw[R.out,←O];rfl),Q⟩
def Ev(us gs:List Rg)(u g:Int):Prop:=Ff us u≠none∧Ff gs g≠none
def Nd.ids(us gs:List Rg):Nd→Prop
 |.mk _ _ u g _ _ _ _=>Ev us gs u g
mutual
def Ct(us gs:List Rg):Nd→AU→Prop
 |.mk k _ u g o _ _ ks,t=>(k=3→A8 t≠[])∧(k≠3→Ev us gs u g∧CH us gs ks (if o=true then []else DZ t))
def CH(us gs:List Rg):At→AU→Prop
 |[],_=>True
 |(nm,y)::l,t=>Ct us gs y (Bc nm t)∧CH us gs l t
end
theorem GV{us gs:List Rg}{x:Nd}{t:AU}:Ct us gs x t↔(x.kind=3→A8 t≠[])∧(x.kind≠3→x.ids us gs∧CH us gs x.kids (D1 x t)):=by
 obtain⟨k,m,u,g,o,nh,d,ks⟩:=x;rw[Ct];exact Iff.rfl
theorem Nk(us gs:List Rg)(x:Nd)(ks:At):(x.with ks).ids us gs↔x.ids us gs:=by obtain⟨k,m,u,g,o,nh,d,F⟩:=x;exact Iff.rfl
theorem Tt(x:Nd)(ks:At)(t:AU):D1 (x.with ks) t=D1 x t:=by unfold D1;rw[Rm]
theorem J0{us gs:List Rg}{x:Nd}{t:AU}(F:x.kind=2):Ct us gs x t↔x.ids us gs∧CH us gs x.kids (D1 x t):=by
 rw[GV,F];exact⟨fun h=>h.2 (by decide),fun h=>⟨fun e=>absurd e (by decide),fun _=>h⟩⟩
theorem LE{us gs:List Rg}{t:AU}{m:BA}{y:Nd}:∀{ks:At},CH us gs ks t→fk m ks=some y→Ct us gs y (Bc m t)
 |[],_,h=>by cases h
 |(n,x)::l,hv,h=>by
  rw[CH]at hv;rw[fk]at h;split at h
  ·rename_i e;cases h;rw[←e];exact hv.1
  ·exact LE hv.2 h
theorem Nt{us gs:List Rg}{t:AU}{m:BA}{z:Nd}(F:Ct us gs z (Bc m t)):∀{ks:At},CH us gs ks t→CH us gs (BQ m z ks) t
 |[],h=>h
 |(n,x)::l,h=>by
  rw[CH]at h;rw[BQ];split
  ·rw[CH];exact⟨F,h.2⟩
  ·rw[CH];exact⟨h.1,Nt F h.2⟩
theorem RE{us gs:List Rg}{t:AU}{m:BA}{z:Nd}(F:Ct us gs z (Bc m t)):∀{ks:At},CH us gs ks t→CH us gs (Cy m z ks) t
 |[],h=>by rw[Cy,CH];exact⟨F,h⟩
 |(n,x)::l,h=>by
  rw[Cy];split
  ·rw[CH];exact⟨F,h⟩
  ·rw[CH]at h⊢;exact⟨h.1,RE F h.2⟩
theorem Se{us gs:List Rg}{t:AU}{m:BA}:∀{ks:At},CH us gs ks t→CH us gs (DA m ks) t
 |[],h=>h
 |(n,x)::l,h=>by
  rw[CH]at h;rw[DA];split
  ·exact h.2
  ·rw[CH];exact⟨h.1,Se h.2⟩
def Ef:List BA→Nd→AU→AU
 |[],_,t=>t
 |m::l,x,t=>Ef l ((fk m x.kids).getD zN) (Bc m (D1 x t))
theorem Lx{us gs:List Rg}{c:Option Nd}:∀(nf:List BA) (x:Nd) (t:AU) (I:Nd),Ct us gs x t→(∀z,c=some z→Ct us gs z (Ef nf x t))→AG c nf x=.ok I→Ct us gs I t∧I.kind=2∧x.kind=2
 |[],x,t,I,_,_,h=>by rw[AG]at h;cases h
 |[m],x,t,I,hx,H,h=>by
  rw[Gf]at h;by_cases F:x.kind=2
  ·rw[nB (by simp[F])]at h
   have G:=(J0 F).1 hx;have fin:∀ks,CH us gs ks (D1 x t)→Ct us gs (x.with ks) t∧(x.with ks).kind=2∧x.kind=2:=fun ks Q=>by
    have J:(x.with ks).kind=2:=by rw[FZ,F]
    refine⟨(J0 J).2 ⟨(Nk ..).2 G.1,?_⟩,J,F⟩;rw[FH,Tt];exact Q
   cases c with
   |some z=>
    simp only[Dy]at h;have H:=H z rfl;rw[Ef,Ef]at H;split at h
    ·cases h
    injection h with h
    subst h;refine fin _ ?_;split
    ·exact RE H G.2
    ·exact Nt H G.2
   |none=>
    simp only[Dy]at h;split at h
    ·cases h
    injection h with h
    subst h;exact fin _ (Se G.2)
  ·rw[nC F]at h;cases h
 |m::O::N,x,t,I,hx,H,h=>by
  rw[Gg]at h;by_cases F:x.kind=2
  ·rw[nB (by simp[F])]at h
   cases hf:fk m x.kids with
   |none=>rw[hf]at h;cases h
   |some y=>
    rw[hf]at h;dsimp only at h;cases hy:AG c (O::N) y with
    |error f=>rw[hy]at h;cases h
    |ok z=>
     rw[hy]at h;have h:=h;injection h with h
     subst h;have G:=(J0 F).1 hx
     have R:=Lx (O::N) y (Bc m (D1 x t)) z (LE G.2 hf) (fun v T=>by
      have:=H v T;rw[Ef,hf]at this;exact this) hy
     have J:(x.with (BQ m z x.kids)).kind=2:=by rw[FZ,F]
     refine⟨(J0 J).2 ⟨(Nk ..).2 G.1,?_⟩,J,F⟩;rw[FH,Tt];exact Nt R.1 G.2
  ·rw[nC F]at h;cases h
theorem K5{us gs:List Rg}:∀(nf:List BA) (x:Nd) (t:AU) (y:Nd),Ct us gs x t→AV nf x=some y→Ct us gs y (Ef nf x t)
 |[],x,t,y,hx,h=>by
  rw[AV]at h;cases h;rw[Ef];exact hx
 |m::l,x,t,y,hx,h=>by
  rw[CJ]at h;by_cases F:x.kind=2
  ·rw[nB (by simp[F])]at h
   cases hf:fk m x.kids with
   |none=>rw[hf]at h;cases h
   |some z=>
    rw[hf]at h;rw[Ef,hf];exact K5 l z _ y (LE ((J0 F).1 hx).2 hf) h
  ·rw[nC F]at h;cases h
theorem Hy{us gs:List Rg}{x y:Nd}(h:Bh true us gs x=some y):y.ids us gs:=by
 obtain⟨k,m,u,g,o,nh,d,ks⟩:=x;rw[Bh]at h;simp only[if_true]at h;split at h
 ·rename_i u' g' e1 e2
  cases h;exact⟨by rw[Ud e1];simp,by rw[Ud e2];simp⟩
 ·cases h
theorem QW{us gs:List Rg}:∀(G:List BA) (H:AU) (nm:BA) (L:List (Nd×BA)),H0 us gs G H nm L→∀t,Ct us gs (BN L) t
 |[],H,nm,L,h,t=>by
  obtain⟨q,r,y,I,F,rfl⟩:=h;show Ct us gs y t;have J:y.kind≠3:=by
   rw[(Gz F).1.trans (JN _)];rcases(GT I).2 with e|e
   ·rw[e];decide
   ·rw[e.1];decide
  rw[GV];refine⟨fun e=>absurd e J,fun _=>⟨Hy F,?_⟩⟩;rw[(Gz F).2.trans (JO _),CH];trivial
 |n::G,H,nm,L,h,t=>by
  obtain⟨q,r,y,O,I,F,Q,rfl⟩:=h;obtain⟨_,z,T,R⟩:=PU Q;have J:y.kind≠3:=by
   rw[(Gz F).1.trans (JN _)];rcases(GT I).2 with e|e
   ·rw[e];decide
   ·rw[e.1];decide
  have e:BN ((y,nm)::O)=y.with [(n,BN O)]:=by rw[R];rfl
  rw[e,GV,FZ,FH];refine⟨fun e=>absurd e J,fun _=>⟨(Nk ..).2 (Hy F),?_⟩⟩;rw[CH,CH];exact⟨QW G _ n O Q _,trivial⟩
theorem bX{us gs:List Rg}{x0:Nd}{ni:List Nd}{nf:List BA}{F:Nd}(H:∀s∈nf,AQ s=true)(hx:Ct us gs x0 (ni.zipIdx 1))(h:DL us gs (x0::ni) nf x0=.ok F):Ct us gs F (ni.zipIdx 1):=by
 rcases(JR (fun _ _ i O=>H _ (List.getElem_mem O))).1 F h with⟨rfl,_⟩|⟨N,Q,L,R,T,I⟩
 ·exact hx
 ·refine(Lx N x0 _ F hx (fun z G=>?_) I).1
  injection G with G
  subst G;have:∃J nm,H0 us gs Q J nm L:=by
   clear I h hx H R;revert T;generalize ni.zipIdx 1=t;induction N generalizing x0 t with
   |nil=>intro h;exact h.elim
   |cons m N V=>
    cases N with
    |nil=>intro h;exact⟨_,_,h.2.2⟩
    |cons aa N=>intro h;obtain⟨_,y,_,_,Y⟩:=h;exact V _ Y
  obtain⟨J,nm,Z⟩:=this;exact QW _ _ _ _ Z _
mutual
theorem Yr{us gs:List Rg}:∀{x:Nd},Ct us gs x []→∀t,x.kind≠3∧Ct us gs x t
 |.mk k m u g o nh d ks,h,t=>by
  rw[Ct]at h;have F:k≠3:=fun e=>h.1 e rfl;have G:=h.2 F
  refine⟨F,?_⟩;rw[Ct];refine⟨fun e=>absurd e F,fun _=>⟨G.1,K4 ?_ _⟩⟩;have e:(if o=true then []else DZ ([]:AU))=[]:=by split<;>rfl
  rw[e]at G;exact G.2
theorem K4{us gs:List Rg}:∀{ks:At},CH us gs ks []→∀t,CH us gs ks t
 |[],_,_=>by rw[CH];trivial
 |(nm,y)::l,h,t=>by
  rw[CH]at h;rw[CH];exact⟨(Yr (show Ct us gs y []from h.1) _).2,K4 h.2 t⟩
end
theorem cC{t:AU}(h:A8 t=[]):DZ t=[]:=by
 cases t with
 |nil=>rfl
 |cons s r=>
  rw[A8]at h;split at h
  ·cases h
  ·exact h
theorem Q0{us gs:List Rg}{k m u g:Int}{o:Bool}{nh:List Kv}{d:BA}{ks:At}{t:AU}(G:k≠3)(h:Ct us gs (.mk k m u g o nh d ks) t)(H:ks=[]∨o=true∨A8 t=[])(I:Bool)(J:AU):Ct us gs (.mk k m u g I nh d ks) J:=by
 rw[Ct]at h⊢;have F:=h.2 G;refine⟨fun e=>absurd e G,fun _=>⟨F.1,?_⟩⟩;rcases H with rfl|rfl|e
 ·rw[CH];trivial
 ·rw[nC rfl]at F;exact K4 F.2 _
 ·rw[cC e]at F
  have O:(if o=true then([]:AU)else [])=[]:=by split<;>rfl
  rw[O]at F;exact K4 F.2 _
theorem bh{x y:Nd}{m:BA}{t:AU}(F:x.kind=2)(G:fk m x.kids=some y):Cv ((x,0)::D1 x t) m=A8 ((y,0)::Bc m (D1 x t)):=by
 unfold Cv;rw[My,Nh F,G]
theorem PP:∀(l:List BA) (x:Nd) (t:AU) (d:Nd),AV l x=some d→d.kind=2→l.foldl Cv (A8 ((x,0)::t))=(d,0)::D1 d (Ef l x t)
 |[],x,t,d,h,hd=>by
  rw[AV]at h;cases h;exact J5 hd t
 |m::l,x,t,d,h,hd=>by
  rw[CJ]at h;by_cases F:x.kind=2
  ·rw[nB (by simp[F])]at h
   cases hf:fk m x.kids with
   |none=>rw[hf]at h;cases h
   |some y=>
    rw[hf]at h;rw[rK,J5 F,bh F hf,Ef,hf];exact PP l y _ d h hd
  ·rw[nC F]at h;cases h
theorem MW:∀(l:List BA) (m:BA) (x:Nd) (t:AU) (d:Nd),AV l x=some d→Ef (l++[m]) x t=Bc m (D1 d (Ef l x t))
 |[],m,x,t,d,h=>by
  rw[AV]at h;cases h;rfl
 |n::l,m,x,t,d,h=>by
  rw[CJ]at h;by_cases F:x.kind=2
  ·rw[nB (by simp[F])]at h
   cases hf:fk n x.kids with
   |none=>rw[hf]at h;cases h
   |some y=>
    rw[hf]at h;rw[n9,Ef,Ef,hf];exact MW l m y _ d h
  ·rw[nC F]at h;cases h
theorem N1{x0:Nd}{ni:List Nd}{l:List BA}{m:BA}{d:Nd}(h:AV l x0=some d)(hd:d.kind=2):DX (x0::ni) (l++[m])= !(A8 (Ef (l++[m]) x0 (ni.zipIdx 1))).isEmpty:=by
 rw[Qt (n:=l.length) (nm:=m) (by simp) (by simp),List.take_left' rfl,MW l m x0 _ d h];have e:AP (x0::ni) l=(d,0)::D1 d (Ef l x0 (ni.zipIdx 1)):=PP l x0 (ni.zipIdx 1) d h hd;rw[e,Gi,nC rfl]
theorem Sy{us gs:List Rg}{x0 G:Nd}{ni:List Nd}{l:List BA}{m:BA}{d wh:Nd}(h:AV l x0=some d)(hd:d.kind=2)(hx:Ct us gs x0 (ni.zipIdx 1))(H:wh.kind=3)
 (I:AG (if DX (x0::ni) (l++[m])=true then some wh else none) (l++[m]) x0=.ok G):Ct us gs G (ni.zipIdx 1):=by
 refine(Lx _ _ _ _ hx (fun z F=>?_) I).1;split at F
 ·rename_i hb
  cases F;rw[N1 h hd]at hb;rw[GV,H];exact⟨fun _ e=>by rw[e]at hb;simp at hb,fun e=>absurd rfl e⟩
 ·cases F
theorem Lu{us gs:List Rg}{x:Nd}(F:x.kind≠3)(G:x.ids us gs)(H:x.kids=[])(t:AU):Ct us gs x t:=by
 rw[GV];refine⟨fun e=>absurd e F,fun _=>⟨G,?_⟩⟩;rw[H,CH];trivial
def BP(x:Int):Bool:=decide (0≤x)&&decide (x≤65535)
def Bg(w:World)(a:Option Addr)(F:List Int):Prop:=
 F=[]∨∃b G,a=some ⟨b,G,none⟩∧∀i,i<F.length→w.cell? ⟨b,G+i,none⟩=some (.int .i64 (F.getD i 0))
theorem Bg.below{w w':World}{a:Option Addr}{F:List Int}(h:Bg w a F)(hb:Below w.heap.size w w'):Bg w' a F:=by
 rcases h with h|⟨b,G,H,I⟩
 ·exact .inl h
 ·exact .inr ⟨b,G,H,fun i J=>by
   have:=I i J;have O:=bL this;rw[hb.cell (p:=(aD b (G+i))) O];exact this⟩
theorem G8{W F:World}(hb:Below W.heap.size W F):(∀b o,b<W.heap.size→F.cell? (aD b o)=W.cell? (aD b o))∧(∀b o,b<W.heap.size→F.frozen? (aD b o)=W.frozen? (aD b o)):=
 ⟨fun b o h=>hb.cell (p:=(aD b o)) h,fun b o h=>hb.frozen (p:=(aD b o)) h⟩
theorem ET(x:Int)(w:World):Calls prog 111 #[iN x] w fun e w'=>e=.returned (.bool (BP x))∧w=w':=by
 by_cases h:0≤x
 ·go_enter func111,ntmps111
  go_wp2;go_ret;exact⟨Bf (by simp[BP,h]),rfl⟩
 ·have hd:decide (0≤x)=false:=by simpa using h
  go_enter func111,ntmps111;go_wp2;go_ret;exact⟨Bf (by simp[BP,hd]),rfl⟩
theorem Sf{F:List Int}{k:Nat}{x:Int}(G:k<F.length)(H:(F.take k).contains x=false)(I:¬F[k]=x):(F.take (k+1)).contains x=false:=by
 have J:¬x∈F.take k:=by simpa using H
 have O:¬x∈F.take (k+1):=by
  rw[List.take_succ_eq_append_getElem G,rd];rintro(h|h)
  ·exact J h
  ·exact I (by simpa using(rj.1 h).symm)
 simpa using O
def EI(g:Int)(F:List Int)(x:Int):Bool:=(x==g)||F.contains x
theorem KY(u g x c:Int)(a:Option Addr)(cap:Nat)(F:List Int)(w:World)(T:F.length≤8)(h:Bg w a F):
 Calls prog 139 #[.agg #[iN u,iN g,.slice a F.length cap,iN c],iN x] w fun e w'=>
  e=.returned (.bool (EI g F x))∧Below w.heap.size w w':=by
 by_cases hx:x=g
 ·subst hx
  go_enter func139,ntmps139;go_wp2;go_ret;exact⟨Bf (by simp[EI]),bN⟩
 ·have J:(x==g)=false:=by simpa using hx
  go_enter func139,ntmps139;go_wp2;go_loop [14] (fun i=>∃k:Nat,k≤F.length∧i=iN k∧(F.take k).contains x=false) (fun i=>F.length-(intOf i).toNat)
  case atStart=>exact⟨0,nM _,rfl,rfl⟩
  case round=>
   obtain⟨k,V,rfl,H⟩:=hrel;by_cases I:k<F.length
   ·rcases h with rfl|⟨b,Y,rfl,O⟩
    ·simp at I
    ·have Q:=O k I
     have Z:b<w.heap.size:=bL Q;by_cases G:F[k]=x
     ·have R:(F[k]==x)=true:=by simpa using G
      go_wp2;go_ret;exact⟨Bf (by simp[EI,←G]),bN⟩
     ·have R:(F[k]==x)=false:=by simpa using G
      go_wp2;go_round
      case rel=>exact⟨k+1,by omega,by go_num,Sf I H G⟩
      case measure=>simp[intOf];omega
   ·go_wp2
    go_ret;rw[n1 (by omega)]at H;exact⟨Bf (by simp[EI,J];simpa using H),bN⟩
theorem Ix(u g c x:Int)(v:Value)(w:World):
 Calls prog 128 #[.agg #[iN u,iN g,v,iN c],iN x] w fun e w'=>
  e=.returned (.bool (bits .and .i64 c x==x))∧Below w.heap.size w w':=by
 go_enter func128,ntmps128;go_wp2;go_ret;exact⟨rfl,bN⟩
def Ft(F:List Int)(k:Nat):Int:=if BP (F.getD k 0)=false then 1 else if 0<k∧F.getD k 0≤F.getD (k-1) 0 then 3 else 0
def gF(F:List Int):Nat→Nat→Int
 |_,0=>0
 |k,n+1=>if Ft F k=0 then gF F (k+1) n else Ft F k
def CR(u g:Int)(F:List Int)(c:Int):Int:=
 if BP u=false∨BP g=false∨c<0∨15<c then 1 else if 4<F.length then 2 else gF F 0 F.length
theorem U0{F:List Int}{k n:Nat}(h:Ft F k=0):gF F k (n+1)=gF F (k+1) n:=by simp[gF,h]
theorem Un{F:List Int}{k n:Nat}(h:¬Ft F k=0):gF F k (n+1)=Ft F k:=by simp[gF,h]
theorem Sk{F:List Int}{k:Nat}(h:BP (F.getD k 0)=false):Ft F k=1:=by unfold Ft;rw[nC h]
theorem RK{F:List Int}{k:Nat}(h:BP (F.getD k 0)=true)(G:0<k)(H:F.getD k 0≤F.getD (k-1) 0):Ft F k=3:=by
 unfold Ft;rw[nB (by rw[h];decide),nC ⟨G,H⟩]
theorem X6{F:List Int}(h:BP (F.getD 0 0)=true):Ft F 0=0:=by
 unfold Ft;rw[nB (by rw[h];decide),nB (by omega)]
theorem Y3{F:List Int}{k:Nat}(h:BP (F.getD k 0)=true)(G:¬F.getD k 0≤F.getD (k-1) 0):Ft F k=0:=by
 unfold Ft;rw[nB (by rw[h];decide),nB (by intro H;exact G H.2)]
theorem XV{u g c:Int}{F:List Int}(G:BP u=true)(H:BP g=true)(J:¬c<0)(O:¬15<c)(I:¬4<F.length):CR u g F c=gF F 0 F.length:=by
 unfold CR;rw[nB (by simp[G,H];omega),nB I]
theorem WN{u g c:Int}{F:List Int}(G:BP u=true)(H:BP g=true)(J:¬c<0)(O:¬15<c)(I:4<F.length):CR u g F c=2:=by
 unfold CR;rw[nB (by simp[G,H];omega),nC I]
theorem KN{u g c:Int}{F:List Int}(h:BP u=false∨BP g=false∨c<0∨15<c):CR u g F c=1:=by unfold CR;rw[nC h]
theorem Is(u g c:Int)(a:Option Addr)(cap:Nat)(F:List Int)(w:World)(bb:F.length≤8)(h:Bg w a F):
 Calls prog 61 #[.agg #[iN u,iN g,.slice a F.length cap,iN c]] w fun e w'=>
  e=.returned (Am (CR u g F c))∧Below w.heap.size w w':=by
 by_cases Y:BP u=false
 ·go_enter func61,ntmps61
  go_wp2_with (go_at_call 111;refine(ET _ _).mono ?_;rintro e w' ⟨rfl,rfl⟩)
  go_ret;exact⟨Cm (AH (KN (.inl Y)) (by decide)).symm,bN⟩
 have ad:BP u=true:=by simpa using Y
 clear Y;by_cases Z:BP g=false
 ·go_enter func61,ntmps61
  go_wp2_with (go_at_call 111;refine(ET _ _).mono ?_;rintro e w' ⟨rfl,rfl⟩)
  go_ret;exact⟨Cm (AH (KN (.inr (.inl Z))) (by decide)).symm,bN⟩
 have ak:BP g=true:=by simpa using Z
 clear Z;by_cases T:c<0
 ·go_enter func61,ntmps61
  go_wp2_with (go_at_call 111;refine(ET _ _).mono ?_;rintro e w' ⟨rfl,rfl⟩)
  go_ret;exact⟨Cm (AH (KN (.inr (.inr (.inl T)))) (by decide)).symm,bN⟩
 have bd:decide (c<0)=false:=by simpa using T
 by_cases V:15<c
 ·go_enter func61,ntmps61
  go_wp2_with (go_at_call 111;refine(ET _ _).mono ?_;rintro e w' ⟨rfl,rfl⟩)
  go_ret;exact⟨Cm (AH (KN (.inr (.inr (.inr V)))) (by decide)).symm,bN⟩
 have be:decide (15<c)=false:=by simpa using V
 by_cases ao:4<F.length
 ·have a6:Hid (CR u g F c=2):=WN ad ak T V ao
  go_enter func61,ntmps61;go_wp2_with (go_at_call 111;refine(ET _ _).mono ?_;rintro e w' ⟨rfl,rfl⟩)
  go_ret;exact⟨Cm (AH a6.out (by decide)).symm,bN⟩
 have aa:=hid (XV ad ak T V ao);go_enter func61,ntmps61;go_wp2_with (go_at_call 111;refine(ET _ _).mono ?_;rintro e w' ⟨rfl,rfl⟩)
 go_loop [34] (fun i=>∃k:Nat,k≤F.length∧i=iN k∧Hid (gF F 0 F.length=gF F k (F.length-k))) (fun i=>F.length-(intOf i).toNat)
 case atStart=>exact⟨0,nM _,rfl,rfl⟩
 case round=>
  obtain⟨k,bf,rfl,O⟩:=hrel;by_cases J:k<F.length
  ·rcases h with rfl|⟨b,a7,rfl,ap⟩
   ·simp at J
   ·have ab:=ap k J
    have bg:b<w.heap.size:=bL ab;have H:Hid (gF F k (F.length-k)=gF F k ((F.length-(k+1))+1)):=by show _=_;congr 1;omega
    by_cases Q:BP (F.getD k 0)=false
    ·have a8:BP F[k]=false:=by simpa [J]using Q
     go_wp2_with (go_at_call 111;refine(ET _ _).mono ?_;rintro e w' ⟨rfl,rfl⟩)
     go_ret;exact⟨Cm (AH (by rw[aa.out,O.out,H.out,Un (by rw[Sk Q];decide),Sk Q]) (by decide)).symm,bN⟩
    ·have G:BP (F.getD k 0)=true:=by simpa using Q
     have a8:BP F[k]=true:=by simpa [J]using G
     clear Q;rcases k with _|j
     ·have R:Hid (gF F 0 (F.length-0)=gF F 1 (F.length-1)):=H.out.trans (U0 (X6 G))
      have bi:Ce w b a7 (iN (F.getD 0 0)):=ab;clear G H ab;go_wp2_with (go_at_call 111;refine(ET _ _).mono ?_;rintro e w' ⟨rfl,rfl⟩)
      go_round
      case rel=>exact⟨1,by omega,rfl,O.out.trans R.out⟩
      case measure=>simp[intOf];omega
     ·have bk:=ap j (by omega)
      have az:j<F.length:=by omega
      by_cases I:F.getD (j+1) 0≤F.getD j 0
      ·have R:Hid (gF F (j+1) (F.length-(j+1))=3):=H.out.trans ((Un (by rw[RK G (by omega) I];decide)).trans (RK G (by omega) I))
       have a1:F[j+1]≤F[j]:=by simpa [J,az]using I
       clear G H I;go_wp2_with (go_at_call 111;refine(ET _ _).mono ?_;rintro e w' ⟨rfl,rfl⟩)
       go_ret;exact⟨Cm (AH (by rw[aa.out,O.out,R.out]) (by decide)).symm,bN⟩
      ·have R:Hid (gF F (j+1) (F.length-(j+1))=gF F (j+2) (F.length-(j+2))):=H.out.trans (U0 (Y3 G I))
       have a1:¬F[j+1]≤F[j]:=by simpa [J,az]using I
       have bl:decide (F[j+1]≤F[j])=false:=by simpa using a1
       clear G H I;go_wp2_with (go_at_call 111;refine(ET _ _).mono ?_;rintro e w' ⟨rfl,rfl⟩)
       go_round
       case rel=>exact⟨j+2,by omega,by go_num,O.out.trans R.out⟩
       case measure=>simp[intOf];omega
  ·have ba:F.length-k=0:=by omega
   go_wp2;go_ret;exact⟨Cm (Cr (by rw[aa.out,O.out,ba];rfl)).symm,bN⟩
theorem Iz{a b:Int}(h:a=b):Ending.returned (.int .i64 a)=.returned (.int .i64 b):=by rw[h]
def JB(n b:Int):Bool:=(n / b)%2==1
end Go.Proofs.YtgppjbhaimmlpaaGreatDoor
