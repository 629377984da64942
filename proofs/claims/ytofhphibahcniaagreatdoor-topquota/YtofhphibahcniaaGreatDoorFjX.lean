/-
  TopQuota: Fj Fk Fi Fp Fw Ga Ge Ca Cg.
-/
import Derived.Test.YtofhphibahcniaaGreatDoorApX
import Derived.Test.YtofhphibahcniaaGreatDoorHaX
import Derived.Deep.RegionLaw
import Derived.Deep.Cut
import Derived.Test.YtofhphibahcniaaGreatDoorUbX
import Derived.Test.YtofhphibahcniaaGreatDoorKcX
import Derived.Test.YtofhphibahcniaaGreatDoorWoX
import Derived.Test.YtofhphibahcniaaGreatDoorMaX
import Derived.Deep.RegionHeld3
import Derived.Lib.SliceRun
import Derived.WalkKit
import Derived.WalkSpells
import Derived.WalkLawsBesides
set_option maxRecDepth 100000
set_option maxHeartbeats 16000000
namespace Go.Proofs.YtofhphibahcniaaGreatDoor
open Go.RowKit Go.Shelf Go.Sort Go.Proofs.Tryz
instance:Inhabited Pe:=⟨⟨⟨#[]⟩,none,0,[]⟩⟩
def Hb(e:Pe):List Value:=[.string e.n,.slice e.a e.L.length e.c]
def Ku(x y:Pe):Int:=FQ x.n y.n
theorem MI(x y:Pe):ltOf Ku x y=AZ x.n y.n:=by
 unfold ltOf Ku FQ;cases h1:AZ x.n y.n with
 |true=>rfl
 |false=>
  cases h2:AZ y.n x.n with
  |true=>rfl
  |false=>rfl
theorem fo:SWO (ltOf Ku)where
 irrefl x:=by rw[MI];exact Hv _
 trans x y z h1 h2:=by rw[MI]at*;exact GE h1 h2
 ntrans x y z h1 h2:=by
  rw[MI]at*;cases h:AZ x.n z.n with
  |false=>rfl
  |true=>
   rcases IE x.n y.n with e|e|e
   ·rw[h1]at e;cases e
   ·rw[←e,h]at h2;cases h2
   ·rw[GE e h]at h2;cases h2
theorem RS{w:World}{b:Nat}{F:List Pe}(h:DP w b F):HoldsK Hb 2 w b 0 F.toArray:=by
 intro j G;rw[size_flatK]at G;rw[get_flatK _ _ _ _ G];have H:j / 2<F.length:=by simp at G;omega
 obtain⟨c0,c1⟩:=h.cell (j / 2) F[j / 2] (nt H);have I:F.toArray[j / 2]! =F[j / 2]:=by simp[H]
 rw[I];refine⟨?_,h.free _⟩;rw[nU];generalize F[j / 2]=x at c0 c1;rcases Nat.mod_two_eq_zero_or_one j with e|e
 ·rw[e]
  rw[show j / 2*2=j by omega]at c0;exact c0
 ·rw[e]
  rw[show j / 2*2+1=j by omega]at c1;exact c1
theorem cK{w:World}{b F m:Nat}{d:Array Pe}{os:Array Obj}(k:Nat)(G:k<w.heap.size)(H:k≠b):(sortWorldK Hb 2 w b F m d os).heap[k]? =w.heap[k]?:=by
 unfold sortWorldK grow putRowK putRow mapBlock;show((w.heap.modify b _)++os)[k]? =_;rw[Array.getElem?_append_left (by rw[Array.size_modify];exact G),Array.getElem?_modify,nC (fun e=>H e.symm)]
theorem fq{w:World}{b F m:Nat}{d:Array Pe}{os:Array Obj}:Mv (fun k=>k=b) w (sortWorldK Hb 2 w b F m d os):=by
 refine⟨rfl,rfl,rfl,?_,fun k G H=>cK k G H⟩;unfold sortWorldK grow putRowK putRow mapBlock;show _≤((w.heap.modify b _)++os).size;rw[Array.size_append,Array.size_modify];omega
theorem Zc{w:World}{b cap:Nat}{G:List Pe}(h:DP w b G)(az:G.length≤1000):
 Calls prog 123 #[sL b 0 G.length cap,.func (.func 124) #[] #[]] w fun e w'=>e=.returned (.tuple #[])∧Mv (fun k=>k=b) w w'∧∃I:List Pe,I.Perm G∧I.Pairwise (fun a b=>AZ b.n a.n=false)∧∀(i:Nat) e,I[i]? =some e→w'.cell? (aD b (i*2))=some (.string e.n)∧w'.cell? (aD b (i*2+1))=some (.slice e.a e.L.length e.c):=by
 have Z:=enters_of func124 (by kernel_rfl) rfl;have aa:CmpLays prog 124 #[] Hb 2 Ku b 0 G.toArray.size w:=fun m os a1 _ x y=>by
  refine(Yc x.n y.n x.a y.a x.L.length x.c y.L.length y.c _).mono ?_;rintro e w' ⟨rfl,rfl⟩;exact⟨rfl,0,_,by rw[alloc_eq_grow,alloc_eq_grow,grow_grow];rfl⟩
 have ab:=AnyQ.slices_SortFunc Tryz.sortL 2 Tryz.isAgg134 Tryz.sizeOf134 Hb (fun _=>rfl) (fun x v R=>by simp[Hb]at R;rcases R with rfl|rfl<;>rfl) Ku fo 124 #[] b 0 cap G.toArray w Z aa (RS h) h.lt (by simp;omega);have ad:=ab;refine ad.mono ?_;rintro e w' ⟨rfl,F,n,os,ak,ao,rfl⟩;obtain⟨H,_,T⟩:=ak;have a6:F.size=G.length:=by rw[H];simp
 refine⟨rfl,fq,F.toList,?_,?_,fun i e J=>?_⟩
 ·have O:F.extract 0 G.toArray.size=F:=by rw[←H];simp
  have ap:G.toArray.extract 0 G.toArray.size=G.toArray:=by simp
  rw[O,ap]at T;exact T
 ·rw[rZ]
  intro i j J ar ay;have V:j<F.size:=by simpa using ar
  have:=ao i j (nN _) ay (by rw[←H];exact V);rw[MI]at this;rw[getElem!_pos F j V,getElem!_pos F i (by omega)]at this;simpa using this
 ·have Y:HoldsK Hb 2 (sortWorldK Hb 2 w b 0 n F os) b 0 F:=by
   unfold sortWorldK;refine holdsK_grow _ _ _ _ _ _ _ ?_ (holdsK_putRowK _ _ _ _ _ G.toArray _ (holdsK_ahead _ _ _ _ _ _ _ (RS h)) H);show b<(putRowK Hb 2 (Go.Sort.ahead w n) b 0 F).heap.size;unfold putRowK putRow mapBlock;show b<(w.heap.modify b _).size;rw[Array.size_modify];exact h.lt
  have Q:i<F.size:=by have:=(ny.1 J).1;simpa using this
  have O:F[i]! =e:=by
   rw[getElem!_pos F i Q];have:=(ny.1 J).2;simpa using this
  have c0:=Y.cell Q (show 0<2 by omega);have c1:=Y.cell Q (show 1<2 by omega);rw[O]at c0 c1;simp only[nU,rT]at c0 c1;exact⟨c0.1,c1.1⟩
end Go.Proofs.YtofhphibahcniaaGreatDoor
namespace Go.Proofs.YtofhphibahcniaaGreatDoor
open Go.RowKit Go.Shelf Go.Proofs.Tryz
theorem Zh{A:World}{S:Nat→Bool}(V:∀k,S k=true→k<A.heap.size){a:Option Addr}{cap:Nat}{D:List Sp}(Y:DH (Ag A.cell? S) a D)(Z:∀s∈D,CB (Ag A.cell? S) s)(Q:D.length≤1000):
 Calls prog 119 #[.func (.func 157) #[] #[pO A.heap.size 0]] (A.alloc (.cells #[.slice a D.length cap] 131)) fun e B=>∃G F,e=.returned (.slice G (Bs D).length F)∧(Bs D).length≤F∧F≤9223372036854775807∧DH (Ag B.cell? S) G (Bs D)∧Below A.heap.size A B:=by
 have H:Below A.heap.size A (A.alloc (.cells #[.slice a D.length cap] 131)):=bN;have R:=Aj H;have T:=Ci A.cell? S;have c0:Ce (A.alloc (.cells #[.slice a D.length cap] 131)) A.heap.size 0 (.slice a D.length cap):=aC;have aa:=W7 A.heap.size _ a cap D _ rfl c0 Q ((Y.on T).on R);refine(Ns aa (enters_of func157 (by kernel_rfl) rfl) (fun s ab=>((Z s ab).on T).on R) Q).mono ?_;rintro e B ⟨G,F,rfl,ad,ak,J,ao,ap⟩;refine⟨G,F,rfl,ad,ak,?_,H.trans (ap.mono H.size)⟩;rcases J with e|⟨b,O,e,J⟩
 ·exact .inl e
 ·rcases ao with I|⟨g,ay,I,az⟩
  ·exact .inl I
  ·rw[e]at I
   simp only[nV,rc]at I;refine .inr ⟨b,O,e,fun i d ar=>?_⟩;have hb:S b=false:=by
    cases hh:S b with
    |false=>rfl
    |true=>have:=V b hh;have:=H.size;omega
   rw[Ck (show S ((aD b (O+i*2)):Addr).block=false from hb),Ck (show S ((aD b (O+i*2+1)):Addr).block=false from hb)];exact J i d ar
theorem XQ(a:Option Addr)(cap:Nat)(w:World):
 Calls prog 158 #[.slice a 0 cap,.func (.func 122) #[] #[]] w fun e w'=>e=.returned (iN (-1))∧w=w':=by
 go_enter func158,ntmps158;go_wp2;go_loop [8] (fun i=>i=iN 0) (fun _=>0)
 case atStart=>rfl
 case round=>
  subst hrel;go_wp2;go_ret;exact⟨rfl,rfl⟩
theorem ah(a:Option Addr)(cap:Nat)(w:World):
 Calls prog 121 #[.slice a 0 cap,.func (.func 122) #[] #[]] w fun e w'=>e=.returned (.slice a 0 cap)∧w=w':=by
 have F:Hid _:=XQ a cap w;go_enter func121,ntmps121;go_wp2_with fail
 refine np F.out ?_;rintro e G ⟨rfl,rfl⟩;go_wp2;go_ret;exact⟨rfl,rfl⟩
theorem X6(a:Option Addr)(cap:Nat)(F:Value)(w:World):
 Calls prog 123 #[.slice a 0 cap,F] w fun e w'=>e=.returned (.tuple #[])∧w'=w:=AnyF.slices_SortFunc_none Tryz.sortL a cap F w
def PH(c:AH)(v:Value)(M:List (BA×BM)):Prop:=∃(a:Option Addr) (cap:Nat) (F:List Pe),v=.slice a F.length cap∧F.length≤cap∧cap≤9223372036854775807∧
 (F=[]∨∃b,a=some ⟨b,0,none⟩∧∀(i:Nat) e,F[i]? =some e→c ⟨b,i*2,none⟩=some (.string e.n)∧c ⟨b,i*2+1,none⟩=some (.slice e.a e.L.length e.c))∧
 (∀e∈F,ES c (.slice e.a e.L.length e.c) (e.L.map Sp.pr))∧(Cm F).map Wk=M
structure Hm (c:AH) (e:Pe):Prop where
 row:DH c e.a e.L
 nh:∀s∈e.L,CB c s
 cap:e.L.length≤e.c
 cap2:e.c≤9223372036854775807
 len:e.L.length≤1000
theorem Hm.on{c F:AH}{e:Pe}(h:Hm c e)(hb:AR c F):Hm F e:=⟨h.row.on hb,fun s G=>(h.nh s G).on hb,h.cap,h.cap2,h.len⟩
theorem Hm.spl{c:AH}{e:Pe}(h:Hm c e):ES c (.slice e.a e.L.length e.c) (e.L.map Sp.pr):=⟨e.a,e.c,e.L,rfl,h.cap,h.cap2,h.row,h.nh,rfl⟩
theorem DP.set1{w:World}{b:Nat}{G:List Pe}(h:DP w b G){i:Nat}{o:Pe}(H:G[i]? =some o)(e:Pe)(I:e.n=o.n):DP (w.setCell (aD b (i*2+1)) (.slice e.a e.L.length e.c)) b (G.set i e):=by
 obtain⟨J,O⟩:=h.cell i o H;have Q:=(ny.1 H).1;refine⟨fun j f F=>?_,fun j=>by rw[rJ];exact h.free j,by rw[World.size_setCell];exact h.lt⟩;rw[rP]at F;split at F
 ·rename_i e1
  subst e1;cases F;refine⟨?_,nI _ _ _ O⟩;rw[nA _ _ _ _ (by simp),I];exact J
 ·rename_i e1
  obtain⟨q1,q2⟩:=h.cell j f F;refine⟨?_,?_⟩
  ·rw[nA _ _ _ _ (fun e=>by have:=(Addr.mk.inj e).2.1;omega)];exact q1
  ·rw[nA _ _ _ _ (fun e=>by have:=(Addr.mk.inj e).2.1;omega)];exact q2
theorem ZE(F:List Pe):Cm (Dz F)=(Cm F).filter fun p=> !p.2.isEmpty:=by
 unfold Cm Dz;rw[List.filter_map];rfl
def Iu(p:BA×List Sp):BA×List Sp:=(p.1,Bs p.2)
theorem dF{A:Fx}{j:Nat}{p:BA×List Sp}(h:A[j]? =some p):((A.take j).map Iu++A.drop j).set j (Iu p)=(A.take (j+1)).map Iu++A.drop (j+1):=by
 obtain⟨F,e⟩:=ny.1 h;have G:((A.take j).map Iu).length=j:=by rw[rk,rF];omega
 rw[List.set_append_right _ _ (by omega),G,Nat.sub_self,nO F,List.set_cons_zero,rv,h,rA];simp
end Go.Proofs.YtofhphibahcniaaGreatDoor
namespace Go.Proofs.YtofhphibahcniaaGreatDoor
open Go.RowKit Go.Maps Go.Proofs.Tryz
theorem KW{F:Type}{l:List F}{n:Nat}{x:F}(h:l[n]? =some x):l.take (n+1)=l.take n++[x]:=by rw[rv,h];rfl
theorem X3{w:World}{S:Nat→Bool}(gq:∀k,S k=true→k<w.heap.size){eo:Option Addr}{vc:Nat}{D:List Sp}(g3:DH (Ag w.cell? S) eo D)(g4:∀s∈D,CB (Ag w.cell? S) s)(gr:∀(i j:Nat) a b,D[i]? =some a→D[j]? =some b→i≠j→a.ly≠b.ly)(gu:∀s∈D,AB s.x)(hK:tot (D.map Sp.pr)≤1000):
 Calls prog 74 #[.slice eo D.length vc] w fun e w'=>∃v,e=.returned v∧PH (Ag w'.cell? S) v ((CS (D.map Sp.pr)).map fun nm=>(nm,CK (D.map Sp.pr) nm))∧Below w.heap.size w w':=by
 obtain⟨K,d2,d3⟩:=cV g4;have hL:=ez d2 d3;have d4:Hid (K.length=D.length):=d2;have d5:Hid (∀nm,(Dt nm K []).map Sp.pr=Bz nm (D.map Sp.pr)):=dB d2 d3;have ep:Hid _:=gq;have cu:Hid _:=d3;have eq:Hid _:=g3.on (Ci _ _);have er:Hid _:=g4;have es:Hid _:=gr;have eu:Hid _:=gu;have iL:kc K≤1000:=by omega
 have hM:D.length≤1000:=by have:=LP (D.map Sp.pr);rw[rk]at this;omega
 obtain⟨N,d6⟩:∃N,Hid (D.length=N):=⟨_,rfl⟩;obtain⟨hN,gv,gw,b4,gx⟩:=DC Tryz.infoP;obtain⟨hO,gy,gz,gC,gD⟩:=DC Tryz.infoSp;have hP:Hid _:=gv;have hQ:Hid _:=gw;have hR:Hid _:=b4;have hS:Hid _:=gx;have hT:Hid _:=gy;have hU:Hid _:=gz;have hV:Hid _:=gC;have hW:Hid _:=gD;have hX:=@run_makeMap prog;have gE:Er w (w.alloc (.map #[] 0)) w.heap.size (.slice none 0 0) []:=Er.start ((nv _ _).alloc (nn _) _) (nn _) (World.ownsMap_made w prog 9 (plainElem prog 3)) ZJ;rw[d6.out]at hM⊢;generalize D.map Sp.pr=d7 at d5⊢;clear gq g3 g4 gr gu d3 hL hK d2 gv gw b4 gx gy gz gC gD;go_enter func74,ntmps74;go_wp2;clear hX;go_loopw [4,18] (fun v i wr=>∃(j:Nat) (E:List Pe),j≤N∧i=.int .i64 j∧Hid (Dw (Cm E) (K.take j) []∧DB E≤kc (K.take j))∧Hid (Er w wr w.heap.size v E)) (fun _ i _=>N-(intOf i).toNat)
 case atStart=>exact⟨0,[],nN _,rfl,⟨Dw.start,nN _⟩,gE⟩
 case round=>
  obtain⟨j,E,iM,rfl,T,Y⟩:=hrel;clear gE;by_cases hY:j<N;rotate_left
  ·have hZ:decide ((j:Int)<(N:Int))=false:=nB (by omega)
   have bH:Hid (Dw (Cm E) K []∧DB E≤1000):=by
    have I:=T.out;rw[n1 (by rw[d4.out,d6.out];omega)]at I;exact⟨I.1,by omega⟩
   obtain⟨bk,uc,ev,eB,eE,gG⟩:=Df Y.out.row;subst ev;have gH:E.length≤1000:=by have:=OI Y.out.ne;have:=bH.out.2;omega
   have cx:=Y.out.low;rcases List.eq_nil_or_concat E with rfl|⟨iO,iP,gI⟩
   ·have h0:Hid ((CS d7).map (fun nm=>(nm,CK d7 nm))=[]):=by
     have:=QI (PL:=[]) bH.out.1 d5.out (List.Perm.refl _) List.Pairwise.nil;exact this.symm
    have c3:Hid (∀W:World,Calls prog 121 #[.slice bk 0 uc,.func (.func 122) #[] #[]] W fun e w'=>e=.returned (.slice bk 0 uc)∧W=w'):=fun W=>ah bk uc W;have c4:Hid (∀W:World,Calls prog 123 #[.slice bk 0 uc,.func (.func 124) #[] #[]] W fun e w'=>e=.returned (.tuple #[])∧w'=W):=fun W=>X6 bk uc _ W
    clear T bH Y gG d5 cu d4 eq er es eu gH;simp only[nR]at eB⊢;go_wp2;go_loop [87] (fun i=>i=.int .i64 0) (fun _=>0)
    case atStart=>rfl
    case round=>
     subst hrel;go_wp2_with fail
     refine np (c3.out _) ?_;rintro e eL ⟨rfl,rfl⟩;go_wp2_with fail
     refine np (c4.out _) ?_;rintro e eL ⟨rfl,rfl⟩;go_wp2;go_ret;exact⟨_,rfl,⟨bk,uc,[],rfl,eB,eE,.inl rfl,fun e H=>(by cases H),by rw[h0.out];rfl⟩,cx⟩
   have gJ:E≠[]:=by rw[gI];simp
   rcases gG with⟨_,h1,_⟩|⟨F,h2,e0,d8,b5,c5⟩
   ·exact absurd (nX h1) gJ
   subst h2;have gK:∀k,(S k||k==F)=true→k<wr.heap.size:=fun k ak=>by
    simp at ak;rcases ak with q|q
    ·have:=ep.out k q;have:=cx.size;omega
    ·omega
   have bY:Hid _:=gK;have gL:DP wr F E:=⟨fun i e b6=>⟨b5 _ _ (Mf E i e b6).1,b5 _ _ (Mf E i e b6).2⟩,c5,d8⟩;have gM:AR (Ag w.cell? S) (Ag wr.cell? (fun k=>S k||k==F)):=BN fun k ak Q=>⟨by simp[Q];omega,cx.block k ak⟩;have gN:∀e∈E,Hm (Ag wr.cell? (fun k=>S k||k==F)) e:=fun e H=>by
    have bl:=Y.out.each e H;obtain⟨iQ,iR,G,I,b7,a8,gO⟩:=Jr bl;simp only[rp,true_and]at G;obtain⟨G,ay⟩:=G;obtain⟨g,e1,iS,iT⟩:=Gd bl (ri.2 (Y.out.ne e H));have h3:g≠F:=fun q=>by
     rcases Kc (show 134≠179 by decide) Y.out.row bl with q1|q1
     ·cases q1
     ·exact q1 (by rw[e1];show some F=some g;rw[q])
    refine⟨?_,fun s Q=>?_,by rw[ay];exact I,by rw[ay];exact b7,by have:=Oj H;have:=bH.out.2;omega⟩
    ·rcases a8 with q|⟨iU,iV,q,a8⟩
     ·exact .inl q
     ·rw[←G,e1]at q
      simp only[nV,rc]at q;obtain⟨rfl,rfl,_⟩:=q;have gP:(S g||g==F)=false:=by
       simp[h3];cases b9:S g with
       |false=>rfl
       |true=>have:=ep.out g b9;omega
      refine .inr ⟨g,0,e1,fun i d b6=>?_⟩;rw[Ck (S:=fun k=>S k||k==F) (q:=⟨g,0+i*2,none⟩) gP,Ck (S:=fun k=>S k||k==F) (q:=⟨g,0+i*2+1,none⟩) gP];exact a8 i d b6
    ·have gQ:=(bH.out.1.eq (e.n,e.L) (rx.2 ⟨e,H,rfl⟩)).1
     simp only at gQ;rw[gQ]at Q;unfold Dt at Q;rcases rd.1 Q with Q|Q
     ·obtain⟨iW,h4,ao⟩:=rC.1 Q
      obtain⟨bn,ab⟩:=n5 h4;have gR:=(ny.1 ab).1;obtain⟨ba,d9⟩:∃ba,D[bn]? =some ba:=⟨_,nt (by rw[←d4.out];exact gR)⟩;obtain⟨h5,c6,c8⟩:=cu.out bn ba d9;rw[ab]at c6;cases c6;obtain⟨bv,bx⟩:=n5 (Lt ao);have c9:=(ny.1 bx).1;obtain⟨a1,da⟩:∃a1,ba.x.dirKs[bv]? =some a1:=⟨_,nt (by rw[←c8.1];exact c9)⟩;obtain⟨_,_,e2,_,bo,_,_,_,_,_,h6⟩:=c8.2 bv a1 da;rw[bx]at bo;simp only[nV,Prod.mk.injEq]at bo;obtain⟨_,rfl⟩:=bo;exact h6.on gM
     ·cases Q
   have bp:Hid _:=gN;have bA:Hid _:=gL;obtain⟨a6,bB⟩:∃a6,Hid (E.length=a6):=⟨_,rfl⟩;have h7:Hid (Dw (Cm E) K []):=bH.out.1;rw[bB.out]at eB gH⊢;clear T bH Y b5 c5 gK gL gN gM cu d4 eq er es eu gI gJ;go_wp2;go_loopw [87] (fun i wr=>∃(j:Nat) (Z:List Pe),j≤a6∧i=.int .i64 j∧Z.length=a6∧Hid (Cm Z=((Cm E).take j).map Iu++(Cm E).drop j)∧Hid (DP wr F Z)∧Hid (∀e∈Z,Hm (Ag wr.cell? (fun k=>S k||k==F)) e)∧Hid (∀k,(S k||k==F)=true→k<wr.heap.size)∧Below w.heap.size w wr) (fun i _=>a6-(intOf i).toNat)
   case atStart=>exact⟨0,E,nN _,rfl,bB.out,by show _=_;simp,bA.out,bp.out,bY.out,cx⟩
   case round=>
    clear bA bp bY cx d8;obtain⟨q,Z,bb,rfl,gS,T,bA,bp,bY,cb⟩:=hrel;by_cases iX:q<a6
    ·have h8:decide ((q:Int)<(a6:Int))=true:=nF (by omega)
     have iY:(q:Int)<(a6:Int):=by omega
     obtain⟨e,H⟩:∃e,Z[q]? =some e:=⟨_,nt (by omega)⟩;have db:=bp.out e (nE H);have c1:=(bA.out.cell q e H).2;have gT:Hid _:=Zh (cap:=e.c) bY.out db.row db.nh db.len;have gU:Hid _:=Xy wr e.a e.L.length e.c;have e3:Hid (Z[q]? =some e):=H;have e4:Hid (Hm (Ag wr.cell? (fun k=>S k||k==F)) e):=db;clear H db;go_wp2_with fail
     refine np gU.out ?_;rintro h9 eL ⟨rfl,rfl⟩;go_wp2_with fail
     refine np gT.out ?_;rintro ia a7 ⟨a2,bs,rfl,I,b7,a8,bu⟩;have ea:=bA.out.below bu;have c2:=(ea.cell q e e3.out).2;have eb:=ea.free (q*2+1);have ib:Hid _:=ea.set1 e3.out ⟨e.n,a2,bs,Bs e.L⟩ rfl;have e5:AR (Ag wr.cell? (fun k=>S k||k==F)) (Ag (a7.setCell ⟨F,q*2+1,none⟩ (.slice a2 (Bs e.L).length bs)).cell? (fun k=>S k||k==F)):=BN fun k ak Q=>⟨Q,by rw[re _ _ _ _ (by simp at Q;exact Q.2)];exact bu.block k ak⟩;have gV:AR (Ag a7.cell? (fun k=>S k||k==F)) (Ag (a7.setCell ⟨F,q*2+1,none⟩ (.slice a2 (Bs e.L).length bs)).cell? (fun k=>S k||k==F)):=BN fun k ak Q=>⟨Q,by rw[re _ _ _ _ (by simp at Q;exact Q.2)]⟩
     have ic:Hid (∀f∈Z.set q ⟨e.n,a2,bs,Bs e.L⟩,Hm (Ag (a7.setCell ⟨F,q*2+1,none⟩ (.slice a2 (Bs e.L).length bs)).cell? (fun k=>S k||k==F)) f):=fun f e6=>by
      obtain⟨bn,ab⟩:=n5 e6;rw[rP]at ab;split at ab
      ·split at ab
       ·cases ab
        exact⟨a8.on gV,fun s Q=>(e4.out.nh s (TG _ s Q)).on e5,I,b7,by have:=dM e.L;have:=e4.out.len;show(Bs e.L).length≤1000;omega⟩
       ·cases ab
      ·exact(bp.out f (nE ab)).on e5
     have ie:Hid (Cm (Z.set q ⟨e.n,a2,bs,Bs e.L⟩)=((Cm E).take (q+1)).map Iu++(Cm E).drop (q+1)):=by
      show _=_;have ig:(Cm E)[q]? =some (e.n,e.L):=by
       have G:=Ox e3.out;rw[T.out,ro (by rw[rk,rF];omega),rM]at G;have ay:((List.take q (Cm E)).map Iu).length=q:=by
        rw[rk,rF];have:(Cm E).length=a6:=by unfold Cm;rw[rk];exact bB.out
        omega
       rw[ay,Nat.sub_self,rT]at G;exact G
      rw[Uw,T.out];exact dF ig
     have ih:Hid (∀k,(S k||k==F)=true→k<(a7.setCell ⟨F,q*2+1,none⟩ (.slice a2 (Bs e.L).length bs)).heap.size):=fun k ak=>by rw[World.size_setCell];exact nH (bY.out k ak) bu.size
     have ii:=(cb.trans (bu.mono cb.size)).setCell (p:=⟨F,q*2+1,none⟩) e0 (.slice a2 (Bs e.L).length bs);clear e5 gV a8 bu ea gT gU e4 bp bA T bY cb c1;go_wp2;go_roundw
     case rel=>exact⟨q+1,Z.set q ⟨e.n,a2,bs,Bs e.L⟩,by omega,by go_num,by rw[List.length_set];exact gS,ie.out,ib.out,ic.out,ih.out,ii⟩
     case measure=>(simp[intOf];try omega)
    ·have h8:decide ((q:Int)<(a6:Int))=false:=nB (by omega)
     have gW:Hid (Cm Z=(Cm E).map Iu):=by
      show _=_;have iZ:(Cm E).length=a6:=by unfold Cm;rw[rk];exact bB.out
      rw[T.out,n1 (by omega),n7 (by omega),rQ]
     have c3:Hid _:=aM (cap:=uc) bA.out (by omega) (fun e H=>(bp.out e H).len) (by omega) eE;rw[gS]at c3;clear T;go_wp2_with fail
     refine np c3.out ?_;rintro h9 eL ⟨rfl,gX,e7⟩;have gY:(Dz Z).length≤1000:=by have I:(Dz Z).length≤Z.length:=List.length_filter_le _ _;omega
     have ij:Hid ((Dz Z).length≤uc):=by show _≤_;have I:(Dz Z).length≤Z.length:=List.length_filter_le _ _;omega
     have c4:Hid _:=Zc (cap:=uc) gX gY;have gZ:Hid _:=e7;obtain⟨ec,e8⟩:∃ec,Hid ((Dz Z).length=ec):=⟨_,rfl⟩;rw[e8.out]at c4⊢;clear c3 gX e7 gY;go_wp2_with fail
     refine np c4.out ?_;rintro ia a7 ⟨rfl,g0,e9,bd,Q,dd⟩;have fa:=gZ.out.trans g0;have ik:Below w.heap.size w a7:=cb.trans (fa.below cb.size (fun k ak=>by rw[ak];exact e0));have g2:AR (Ag wr.cell? (fun k=>S k||k==F)) (Ag a7.cell? S):=BN fun k ak Q=>⟨by simp at Q;exact Q.1,fa.block k ak (by simp at Q;exact Q.2)⟩;have g5:S F=false:=by
      cases b9:S F with
      |false=>rfl
      |true=>have:=ep.out F b9;omega
     have il:Hid (PH (Ag a7.cell? S) (.slice (some ⟨F,0,none⟩) ec uc) ((CS d7).map fun nm=>(nm,CK d7 nm))):=by
      have g6:e9.length=ec:=by rw[bd.length_eq];exact e8.out
      refine⟨some ⟨F,0,none⟩,uc,e9,by rw[g6],by rw[g6,←e8.out];exact ij.out,eE,.inr ⟨F,rfl,fun i e b6=>?_⟩,fun e H=>?_,?_⟩
      ·rw[Ck (q:=⟨F,i*2,none⟩) g5,Ck (q:=⟨F,i*2+1,none⟩) g5];exact dd i e b6
      ·have I:e∈Dz Z:=bd.mem_iff.1 H
       exact((bp.out e (List.mem_filter.1 I).1).on g2).spl
      ·refine QI h7.out d5.out ?_ ?_
       ·have I:(Cm e9).Perm (Cm (Dz Z)):=bd.map _
        rw[ZE,gW.out]at I;exact I
       ·unfold Cm
        rw[List.pairwise_map];exact Q
     clear c4 gZ g0 bd Q dd fa g2 bp bA gW bY cb;go_wp2;go_ret;exact⟨_,rfl,il.out,ik⟩
  have hZ:decide ((j:Int)<(N:Int))=true:=nF (by omega);obtain⟨d,hd⟩:∃d,D[j]? =some d:=⟨_,nt (by rw[d6.out];exact hY)⟩;obtain⟨be,fb,fc⟩:=cu.out j d hd;obtain⟨b,ed,rfl,g7⟩:∃b ed,eo=some ⟨b,ed,none⟩∧∀i d,D[i]? =some d→w.cell? ⟨b,ed+i*2,none⟩=some (.pointer (some ⟨d.b,d.p,none⟩))∧w.cell? ⟨b,ed+i*2+1,none⟩=some (.int .i64 d.ly):=by
   rcases eq.out with e|e
   ·subst e;simp at hd
   ·exact e
  obtain⟨fd,fe⟩:=g7 j d hd;have de:=Y.out.low;have fd:=Aj de _ _ fd;have fe:=Aj de _ _ fe;have ff:Below wr.heap.size wr (wr.alloc (.cells #[.pointer (some ⟨d.b,d.p,none⟩),.int .i64 d.ly] 179)):=(nv _ _).alloc (nn _) _;obtain⟨c0,c1⟩:=GF wr (.pointer (some ⟨d.b,d.p,none⟩)) (.int .i64 d.ly) 179;have g8:=((er.out d (nE hd)).on (Ci _ _)).below (de.trans (ff.mono de.size));obtain⟨g9,i0,ee,ha⟩:=YA g8;have im:Hid (d.x.dirKs≠[]→g9=d.h.ak):=ee;have fg:Hid (Calls prog 118 #[.agg #[.pointer (some ⟨d.b,d.p,none⟩),.int .i64 d.ly]] (wr.alloc (.cells #[.pointer (some ⟨d.b,d.p,none⟩),.int .i64 d.ly] 179)) _):=ha;have hc:Hid (D[j]? =some d):=hd;have ef:Hid (K[j]? =some be∧Hn (Ag w.cell? S) d be):=⟨fb,fc⟩;obtain⟨M,fh⟩:∃M,Hid (d.x.dirKs.length=M):=⟨_,rfl⟩;have he:be.length=M:=fc.1.trans fh.out;have e7:kc (K.take j)+M≤1000:=by have:=cv fb;omega
  have aa:Hid _:=Y.out.keep ff;clear fc fb hd g7 g8 ee ha de;rw[fh.out]at fg;go_wp2_with fail
  refine np fg.out ?_;rintro e a7 ⟨rfl,bu⟩;have bf:Hid _:=aa.out.keep bu;have fl:a7.heap[wr.heap.size]? =some (.cells #[.pointer (some ⟨d.b,d.p,none⟩),.int .i64 d.ly] 179 (0,0)):=(bu.block _ (by rw[nw];omega)).trans (heap_alloc_new wr _);have bB:Hid (∀e∈E,e.a≠some ⟨wr.heap.size,0,none⟩):=fun e H q=>by
   obtain⟨g,G,_,a8⟩:=Gd (Y.out.each e H) (ri.2 (Y.out.ne e H));rw[q]at G;simp only[nV,rc]at G;omega
  obtain⟨R,fr⟩:∃R,Hid (wr.heap.size=R):=⟨_,rfl⟩;rw[fr.out]at fl bB;rw[fr.out];have hf:Hid _:=fl;clear fg aa Y ff c0 c1 fd fe bu fl;go_wp2;go_loopw [4,26] (fun v i wr=>∃(k:Nat) (E:List Pe),k≤M∧i=.int .i64 k∧Hid (Dw (Cm E) (K.take j) (be.take k)∧DB E≤kc (K.take j)+k)∧Hid (Er w wr w.heap.size v E)∧Hid (wr.heap[R]? =some (.cells #[.pointer (some ⟨d.b,d.p,none⟩),.int .i64 d.ly] 179 (0,0))∧∀e∈E,e.a≠some ⟨R,0,none⟩)) (fun _ i _=>M-(intOf i).toNat)
  case atStart=>exact⟨0,E,nN _,rfl,⟨T.out.1,T.out.2⟩,bf.out,hf.out,bB.out⟩
  case round=>
   clear T bf hf bB fr;obtain⟨k,E,ak,rfl,T,Y,dg⟩:=hrel;by_cases io:k<M;rotate_left
   ·have ip:decide ((k:Int)<(M:Int))=false:=nB (by omega)
    have bC:Hid (Dw (Cm E) (K.take (j+1)) []∧DB E≤kc (K.take (j+1))):=by
     have G:K.take (j+1)=K.take j++[be]:=KW ef.out.1;have I:=T.out.1;rw[n1 (l:=be) (by rw[he];omega)]at I;rw[G];exact⟨I.dir,by rw[dP,he];have:=T.out.2;omega⟩
    go_wp2;go_roundw
    case rel=>exact⟨j+1,E,by omega,by go_num,bC.out,Y.out⟩
    case measure=>(simp[intOf];try omega)
   have ip:decide ((k:Int)<(M:Int))=true:=nF (by omega);have i1:(k:Int)<(M:Int):=by omega
   obtain⟨⟨nm,y⟩,bd⟩:∃p,d.x.dirKs[k]? =some p:=⟨_,nt (by rw[fh.out];exact io)⟩;obtain⟨J,O,s,q1,q2,hg,q4,q5,q6,q7,iq⟩:=ef.out.2.2 k _ bd;have ee:g9=some ⟨J,O,none⟩:=(im.out fun e=>by rw[e]at bd;simp at bd).trans q1;subst ee;have hh:nm.size≤maxLen:=by
    have I:=eu.out d (nE hc.out);have b7:=Lg (nE bd);obtain⟨bn,a8⟩:=n5 b7;have gO:Bu d.x.kids:=by
     obtain⟨i2,i3,i4,⟨i5,i6,i7,i8,i9,ja,jb,jc⟩,h'⟩:=d;rw[AB]at I;exact I.2.2
    have:=(J9 gO a8).1;unfold maxLen;omega
   have hi:Hid (nm.size≤maxLen):=hh;have eg:=Aj Y.out.low _ _ (Ci _ _ _ _ q7);have fs:∀(W:World),W.heap[R]? =some (.cells #[.pointer (some ⟨d.b,d.p,none⟩),.int .i64 d.ly] 179 (0,0))→W.cell? ⟨R,1,none⟩=some (.int .i64 d.ly):=fun W ir=>by simp[World.cell?,ir]
   have iu:Hid _:=fs;have cd:=fs wr dg.out.1;have fv:Hid (be[k]? =some (nm,s)):=q2;have dj:Hid (s.b=J∧s.p=O+k*9+1∧s.ly=d.ly):=⟨hg,q4,q5⟩;have hj:wr.drew.cell? ⟨J,O+k*9,none⟩=some (.string nm)∧wr.drew.cell? ⟨R,1,none⟩=some (.int .i64 d.ly):=⟨eg,cd⟩;have cf:∀o:Obj,Below wr.heap.size wr (wr.alloc o).drew:=fun o=>((nv _ wr).alloc (nn _) o).drew;have hk:(wr.alloc (.cells #[.pointer none,.int .i64 0] 179)).drew.cell? ⟨J,O+k*9,none⟩=some (.string nm)∧(wr.alloc (.cells #[.pointer none,.int .i64 0] 179)).drew.cell? ⟨R,1,none⟩=some (.int .i64 d.ly):=⟨Aj (cf _) _ _ eg,Aj (cf _) _ _ cd⟩
   have hl:(wr.alloc (.cells #[.pointer (some ⟨J,O+k*9+1,none⟩),.int .i64 d.ly] 179)).drew.cell? ⟨J,O+k*9,none⟩=some (.string nm)∧(wr.alloc (.cells #[.pointer (some ⟨J,O+k*9+1,none⟩),.int .i64 d.ly] 179)).drew.cell? ⟨R,1,none⟩=some (.int .i64 d.ly):=⟨Aj (cf _) _ _ eg,Aj (cf _) _ _ cd⟩;clear q1 q2 hg q4 q5 q6 q7 iq bd hh fs eg cd;go_upto_region 10 with fail
   go_region_held3 (fun w'=>w'.cell? ⟨J,O+k*9,none⟩=some (.string nm)∧w'.cell? ⟨R,1,none⟩=some (.int .i64 d.ly)) (first|with_reducible exact hj|with_reducible exact hk|with_reducible exact hl) (fail)
   clear hj hk hl;have b4:=cf (.cells #[.pointer (some ⟨J,O+k*9+1,none⟩),.int .i64 d.ly] 179);have aa:Hid _:=Y.out.keep b4;have ap:Hid ((wr.alloc (.cells #[.pointer (some ⟨J,O+k*9+1,none⟩),.int .i64 d.ly] 179)).drew.heap[R]? =some (.cells #[.pointer (some ⟨d.b,d.p,none⟩),.int .i64 d.ly] 179 (0,0))∧∀e∈E,e.a≠some ⟨R,0,none⟩):=⟨(b4.block R (nJ.1 dg.out.1).1).trans dg.out.1,dg.out.2⟩;obtain⟨bg,bi⟩:=GF wr (.pointer (some ⟨J,O+k*9+1,none⟩)) (.int .i64 d.ly) 179;have bg:(wr.alloc (.cells #[.pointer (some ⟨J,O+k*9+1,none⟩),.int .i64 d.ly] 179)).drew.cell? ⟨wr.heap.size,0,none⟩=some (.pointer (some ⟨J,O+k*9+1,none⟩)):=bg;have bi:(wr.alloc (.cells #[.pointer (some ⟨J,O+k*9+1,none⟩),.int .i64 d.ly] 179)).drew.cell? ⟨wr.heap.size,1,none⟩=some (.int .i64 d.ly):=bi;have dk:(wr.alloc (.cells #[.pointer (some ⟨J,O+k*9+1,none⟩),.int .i64 d.ly] 179)).drew.heap[wr.heap.size]? =some (.cells #[.pointer (some ⟨J,O+k*9+1,none⟩),.int .i64 d.ly] 179 (0,0)):=heap_alloc_new wr _;have dm:Hid (∀e∈E,e.a≠some ⟨wr.heap.size,0,none⟩):=fun e H q=>by
    obtain⟨g,G,_,a8⟩:=Gd (Y.out.each e H) (ri.2 (Y.out.ne e H));rw[q]at G;simp only[nV,rc]at G;omega
   have jd:DB E≤1000:=by have:=T.out.2;omega
   have je:E.length≤1000:=by have:=OI Y.out.ne;omega
   obtain⟨cg,ch⟩:∃cg,Hid (wr.heap.size=cg):=⟨_,rfl⟩;have hm:cg≠w.heap.size:=by
    obtain⟨dn,I,_⟩:=Y.out.mp;have:=I.lt;have b7:=ch.out;omega
   rw[ch.out]at bg bi dm dk;rw[ch.out];generalize(wr.alloc (.cells #[.pointer (some ⟨J,O+k*9+1,none⟩),.int .i64 d.ly] 179)).drew=az at aa ap bg bi dk⊢;clear cf b4 Y dg;obtain⟨bk,uc,ev,_,_,_⟩:=Df aa.out.row;subst ev;obtain⟨dn,hn,ho⟩:=aa.out.mp;have b0:Hid _:=hn;have b1:Hid _:=ho;clear hn ho;go_wp2_with (at_lookup;refine wpList_lookup_own_ok_int _ rfl _ _ 177 rfl 9 3 .i64 VO underlying177 underlying3 (eQ _) w.heap.size E.length dn rfl b0.out _ _ rfl (WideMaps.keyOf_string_mk underlying9 hi.out) ?_)
   intro c dd iv;have fx:Hid _:=dd;clear dd iv;rcases Classical.em (nm∈E.map (·.n))with cl|cl;rotate_left
   ·have dp:Maps.has dn (kN nm)=false:=by rw[(b1.out.2 nm).1,Ol cl];rfl
    rw[dp];have hp:Hid _:=cl;have iw:Hid ((Lit.int .i64 (E.length:Int)).wf=true):=WalkArith.wf_i64 (by omega);clear cl dp fx;go_wp2_with (at_mapUpdate;refine wpList_mapUpdate_own _ rfl _ _ _ 177 rfl 9 3 VO underlying177 (plainElem prog 3) w.heap.size E.length dn rfl b0.out (by unfold maxLen;omega) _ _ _ rfl rfl (WideMaps.keyOf_string_mk underlying9 hi.out) _ [] (plainElem_int underlying3 iw.out) ?_)
    intro V hq co;have hr:Hid _:=hq;have ej:Hid _:=co;have t0:=co.cell bg (by simpa using hm);have ix:=co.cell bi (by simpa using hm);have dr:Hid (((V.alloc (.cells #[.pointer (some ⟨J,O+k*9+1,none⟩),.int .i64 d.ly] 179)).alloc (.cells #[.string nm,.slice (some ⟨V.heap.size,0,none⟩) 1 1] 134)).ownsRow w.heap.size 134 2 (.slice bk E.length uc) E.length (DW E)):=((aa.out.row.kept co (.inr (J6 b0.out aa.out.row))).alloc _).alloc _;have ds:w.heap.size≤((V.alloc (.cells #[.pointer (some ⟨J,O+k*9+1,none⟩),.int .i64 d.ly] 179)).alloc (.cells #[.string nm,.slice (some ⟨V.heap.size,0,none⟩) 1 1] 134)).heap.size:=by rw[nw,nw];have:=aa.out.low.size;have:=co.size;omega
    have du:Hid (∀q u,(DW [⟨nm,some ⟨V.heap.size,0,none⟩,1,[s]⟩])[q]? =some u→((V.alloc (.cells #[.pointer (some ⟨J,O+k*9+1,none⟩),.int .i64 d.ly] 179)).alloc (.cells #[.string nm,.slice (some ⟨V.heap.size,0,none⟩) 1 1] 134)).cell? ((⟨V.heap.size+1,0,none⟩:Addr).add q)=some u):=by
     have:=M0 (V.alloc (.cells #[.pointer (some ⟨J,O+k*9+1,none⟩),.int .i64 d.ly] 179)) (.string nm) (.slice (some ⟨V.heap.size,0,none⟩) 1 1) 134;rw[nw]at this;exact this
    clear hq co bg bi;go_wp2_with (at_builtin;refine DZ _ rfl (.tmp 53) (.tmp 58) 129 rfl w.heap.size 134 hN (.agg #[.string ⟨#[]⟩,.slice none 0 0]) 2 40 underlying129 hP.out hQ.out hR.out hS.out rfl (by decide) _ E.length (DW E) rfl dr.out (some ⟨V.heap.size+1,0,none⟩) 1 1 (DW [⟨nm,some ⟨V.heap.size,0,none⟩,1,[s]⟩]) rfl rfl (.inr ⟨_,rfl,du.out⟩) (TJ _) (by unfold maxLen;omega) (by omega) ds ?_)
    intro v5 hs ht fY iy;have dw:Hid (Er w hs w.heap.size v5 (E++[⟨nm,some ⟨V.heap.size,0,none⟩,1,[s]⟩])):=by
     obtain⟨G,ay,ao⟩:=dj.out;refine aa.out.new (s:=s) hr.out ?_ ej.out ?_ ?_
     ·have:=bq b1.out hp.out
      rwa [rk]at this
     ·exact ht
     ·rw[G,ay,ao];exact fY
    have dx:Hid (hs.heap[R]? =some (.cells #[.pointer (some ⟨d.b,d.p,none⟩),.int .i64 d.ly] 179 (0,0))∧∀e∈E++[⟨nm,some ⟨V.heap.size,0,none⟩,1,[s]⟩],e.a≠some ⟨R,0,none⟩):=by
     have f0:=(nJ.1 ap.out.1).1;have iz:R≠w.heap.size:=fun q=>by
      obtain⟨jf,jg,b9,_⟩:=b0.out;rw[←q,ap.out.1]at b9;cases b9
     have f1:some R≠(Value.slice bk E.length uc).ownBlock:=fun q=>by
      rcases aa.out.row.2 with⟨G,_⟩|⟨g,cap,iA,G,_,dy,_⟩
      ·rw[G]at q;cases q
      ·rw[G]at q
       simp[Value.ownBlock]at q;rw[←q,ap.out.1]at dy;simp at dy
     have jh:=ej.out.size;refine⟨?_,fun e H q=>?_⟩
     ·rw[fY.block R (by rw[nw,nw];omega) f1,rR _ _ _ (by rw[nw];omega),rR _ _ _ (by omega),ej.out.block R f0 (by simpa using iz)]
      exact ap.out.1
     ·rcases rd.1 H with H|H
      ·exact ap.out.2 e H q
      ·rw[rj]at H
       subst H;simp only[nV,rc]at q;omega
    have dz:Hid (Dw (Cm (E++[⟨nm,some ⟨V.heap.size,0,none⟩,1,[s]⟩])) (K.take j) (be.take (k+1))∧DB (E++[⟨nm,some ⟨V.heap.size,0,none⟩,1,[s]⟩])≤kc (K.take j)+(k+1)):=by
     rw[cT,KW fv.out,Uu];exact⟨T.out.1.new (by rw[fj];exact hp.out),by have:=T.out.2;show _+1≤_;omega⟩
    clear ht fY iy dr du t0 ix ds hr ej aa ap T b0 b1 dk dm ch;go_wp2;go_roundw
    case rel=>exact⟨k+1,_,by omega,by go_num,dz.out,dw.out,dx.out⟩
    case measure=>(simp[intOf];try omega)
   ·obtain⟨nh,ek,f2⟩:=UU (i:=0) cl
    rw[nU]at ek;have dp:Maps.has dn (kN nm)=true:=by rw[(b1.out.2 nm).1,ek];rfl
    have iB:c=(nh:Int):=by
     have I:=(b1.out.2 nm).2;rw[fx.out,ek]at I;simpa using I
    rw[dp];subst iB;rw[n4]at f2;obtain⟨e,H,hu⟩:=n0.1 f2;have ji:=(ny.1 H).1;have cp:=nE H;obtain⟨F,iC,e0,d8⟩:=Gd aa.out.row (by omega);subst iC;obtain⟨el,jj,jk,ad⟩:=e;dsimp only at hu;subst hu;have bl:=aa.out.each _ cp;have f3:=ri.2 (aa.out.ne _ cp);dsimp only at bl f3;obtain⟨ge,iD,jl,jm⟩:=Gd bl f3;subst iD;obtain⟨_,_,bb,_,_,iE⟩:=Df aa.out.row;rcases iE with⟨q,_⟩|⟨_,q,_,_,b5,c5⟩
    ·simp only[rp]at bb;rw[q]at bb;cases bb.1
    simp only[rp]at bb;rw[q]at bb;simp only[nV,rc]at bb;obtain⟨⟨rfl,_⟩,iF⟩:=bb;clear iF;have b2:=b5 _ _ (Mf E nh _ H).2;dsimp only at b2;obtain⟨t,f4⟩:∃t,ad[ad.length-1]? =some t:=⟨_,nt (by omega)⟩;have hv:ad.getLast? =some t:=by rw[List.getLast?_eq_getElem?];exact f4
    obtain⟨_,_,b3,_,_,iG⟩:=Df bl;rcases iG with⟨q,_⟩|⟨_,q,_,_,hw,_⟩
    ·simp only[rp]at b3;rw[q]at b3;cases b3.1
    simp only[rp]at b3;rw[q]at b3;simp only[nV,rc]at b3;obtain⟨⟨rfl,_⟩,iH⟩:=b3;clear iH;have f5:=hw _ _ (Oe ad _ t f4).2;have f7:Hid _:=c5;have bC:Hid _:=H;have hy:Hid _:=bl;have f8:Hid _:=hv;have iI:ad.length≤DB E:=Oj cp;obtain⟨ar,f9⟩:∃ar,ad.length=ar+1:=⟨ad.length-1,by omega⟩;have hz:Hid (ad.length=ar+1):=f9;rw[f9]at b2 f5 iI;rw[Nat.add_sub_cancel]at f5;have cd:=iu.out az ap.out.1;have jn:IntKind.i64.wrap ((ar:Int)+1-1)=(ar:Int):=(EG (by omega) (by omega)).trans (by omega);have jo:(nh:Int)<(E.length:Int):=by omega
    have jp:(ar:Int)<(ar:Int)+1:=by omega
    have jq:ar<ar+1:=by omega
    have hA:Hid (ge≠R):=fun q=>ap.out.2 _ cp (by rw[q]);have jr:Hid (ge≠cg):=fun q=>dm.out _ cp (by rw[q])
    clear cl ek f2 dp fx b5 c5 hw q f4 hv bl cp f3 H f9;go_upto_region 16 with fail
    by_cases ga:t.ly=d.ly
    ·have iJ:((t.ly:Int)==(d.ly:Int))=true:=by rw[beq_iff_eq,ga]
     have dz:Hid (Dw (Cm E) (K.take j) (be.take (k+1))∧DB E≤kc (K.take j)+(k+1)):=by
      obtain⟨G,ay,ao⟩:=dj.out;rw[KW fv.out];refine⟨T.out.1.old (Ox bC.out) f8.out (ga.trans ao.symm) fun q bb r gb=>?_,by have:=T.out.2;omega⟩;obtain⟨bn,ab⟩:=n5 bb;rw[rL]at ab;split at ab
      ·rename_i gR
       obtain⟨ba,d9⟩:∃ba,D[bn]? =some ba:=⟨_,nt (by rw[d6.out];omega)⟩;obtain⟨h5,c6,c8⟩:=cu.out bn ba d9;rw[ab]at c6;cases c6;obtain⟨bv,bx⟩:=n5 gb;have c9:=(ny.1 bx).1;obtain⟨a1,da⟩:∃a1,ba.x.dirKs[bv]? =some a1:=⟨_,nt (by rw[←c8.1];exact c9)⟩;obtain⟨_,_,e2,_,bo,_,_,eb,_⟩:=c8.2 bv a1 da;rw[bx]at bo;cases bo;show e2.ly≠s.ly;rw[eb,ao];exact es.out bn j ba d d9 hc.out (by omega)
      ·cases ab
     have dw:Hid (∀q,Er w (az.drewN q) w.heap.size (.slice (some ⟨F,0,none⟩) E.length uc) E):=fun q=>aa.out.keep (Ip (nv _ _) q);have dx:Hid _:=ap.out
     clear T aa ap b0 b1 hy f8 bC f7 dm ch dk;go_quiet (fail)
     go_wp2;go_roundw
     case rel=>exact⟨k+1,E,by omega,by go_num,dz.out,dw.out _,dx.out⟩
     case measure=>(simp[intOf];try omega)
    ·have iJ:((t.ly:Int)==(d.ly:Int))=false:=by rw[beq_eq_false_iff_ne];omega
     go_quiet (fail)
     have hB:Below az.heap.size az (az.drewN nq):=Ip (nv _ _) nq;have bf:Hid _:=aa.out.keep hB;have cr:Hid ((az.drewN nq).heap[R]? =some (.cells #[.pointer (some ⟨d.b,d.p,none⟩),.int .i64 d.ly] 179 (0,0))∧∀e∈E,e.a≠some ⟨R,0,none⟩):=ap.out;have bg:(az.drewN nq).cell? ⟨cg,0,none⟩=some (.pointer (some ⟨J,O+k*9+1,none⟩)):=bg;have bi:(az.drewN nq).cell? ⟨cg,1,none⟩=some (.int .i64 d.ly):=bi;have b2:(az.drewN nq).cell? ⟨F,nh*2+1,none⟩=some (.slice (some ⟨ge,0,none⟩) (ar+1) _):=b2;have gg:(az.drewN nq).frozen? ⟨F,nh*2+1,none⟩=false:=f7.out _;have hC:F<(az.drewN nq).heap.size:=d8;clear aa ap b0 b1 hy f7 cd f5 dk dm ch hB;generalize az.drewN nq=V at bf cr bg bi b2 gg hC⊢;have d0:=bf.out.each _ (nE bC.out);dsimp only at d0;rw[hz.out]at d0;have hD:F≠ge:=fun q=>by
      rcases Kc (show 134≠179 by decide) bf.out.row d0 with G|G
      ·cases G
      ·exact G (by show some F=some ge;rw[q])
     have dr:Hid _:=d0.alloc (.cells #[.pointer (some ⟨J,O+k*9+1,none⟩),.int .i64 d.ly] 179);have ds:w.heap.size≤(V.alloc (.cells #[.pointer (some ⟨J,O+k*9+1,none⟩),.int .i64 d.ly] 179)).heap.size:=by rw[nw];have:=bf.out.low.size;omega
     have du:Hid (∀q u,(Dy [s])[q]? =some u→(V.alloc (.cells #[.pointer (some ⟨J,O+k*9+1,none⟩),.int .i64 d.ly] 179)).cell? ((⟨V.heap.size,0,none⟩:Addr).add q)=some u):=by
      obtain⟨G,ay,ao⟩:=dj.out;have:=M0 V (.pointer (some ⟨J,O+k*9+1,none⟩)) (.int .i64 d.ly) 179;show∀q u,[Value.pointer (some ⟨s.b,s.p,none⟩),Value.int .i64 s.ly][q]? =some u→_;rw[G,ay,ao];exact this
     have hE:Hid (∀u∈Dy [s],u.oneCell'=true):=fun u hG=>by
      simp[Dy]at hG;rcases hG with rfl|rfl<;>rfl
     have hH:=Aj ((nv _ V).alloc (nn _) (.cells #[.pointer (some ⟨J,O+k*9+1,none⟩),.int .i64 d.ly] 179)) _ _ b2;have hI:=(((nv _ V).alloc (nn _) (.cells #[.pointer (some ⟨J,O+k*9+1,none⟩),.int .i64 d.ly] 179)).frozen (p:=⟨F,nh*2+1,none⟩) hC).trans gg;clear d0 b2 gg;go_wp2_with (at_builtin;refine DZ _ rfl (.tmp 77) (.tmp 79) 131 rfl w.heap.size 179 hO (.agg #[.pointer none,.int .i64 0]) 2 16 underlying131 hT.out hU.out hV.out hW.out rfl (by decide) _ (ar+1) (Dy ad) rfl dr.out (some ⟨V.heap.size,0,none⟩) 1 1 (Dy [s]) rfl rfl (.inr ⟨_,rfl,du.out⟩) hE.out (by unfold maxLen;omega) (by omega) ds ?_)
     intro js em gl d1 en;obtain⟨bF,bG,iK,_,_,_⟩:=Df gl;subst iK;have jt:=d1.cell hH (by simpa [Value.ownBlock]using hD);have ju:em.frozen? ⟨F,nh*2+1,none⟩=false:=(World.frozen?_of_block (d1.block F (by rw[nw];omega) (by simpa [Value.ownBlock]using hD))).trans hI;have dw:Hid (Er w (em.setCell ⟨F,nh*2+1,none⟩ (.slice bF (ar+1+1) bG)) w.heap.size (.slice (some ⟨F,0,none⟩) E.length uc) (E.set nh ⟨el,bF,bG,ad++[s]⟩)):=by
      obtain⟨G,ay,ao⟩:=dj.out;have go:=hz.out;have I:=bf.out.add (s:=s) (a2:=bF) (c2:=bG) bC.out (W2:=em) (by show World.ownsRow _ _ _ _ (.slice bF (ad.length+1) bG) (ad.length+1) _;rw[go];exact gl) (by rw[G,ay,ao];exact d1) (by rw[nw];dsimp only;rw[go];exact en);dsimp only at I;rw[go]at I;exact I
     have dx:Hid ((em.setCell ⟨F,nh*2+1,none⟩ (.slice bF (ar+1+1) bG)).heap[R]? =some (.cells #[.pointer (some ⟨d.b,d.p,none⟩),.int .i64 d.ly] 179 (0,0))∧∀e∈E.set nh ⟨el,bF,bG,ad++[s]⟩,e.a≠some ⟨R,0,none⟩):=by
      have f0:=(nJ.1 cr.out.1).1;have f1:R≠F:=fun q=>by
       rcases bf.out.row.2 with⟨G,_⟩|⟨g,cap,iA,G,_,dy,_⟩
       ·cases G
       ·simp only[rp,nV,rc]at G
        rw[←G.1.1,←q,cr.out.1]at dy;simp at dy
      refine⟨?_,fun f e6 q=>?_⟩
      ·rw[re _ _ _ _ (by exact f1),d1.block R (by rw[nw];omega) (by simpa [Value.ownBlock]using fun q=>hA.out q.symm),rR _ _ _ f0]
       exact cr.out.1
      ·obtain⟨bn,ab⟩:=n5 e6
       rw[rP]at ab;split at ab
       ·cases ab
        dsimp only at q;subst q;simp only[Value.ownBlock,nV]at en;rcases en with q|q
        ·exact hA.out q.symm
        ·omega
       ·exact cr.out.2 f (nE ab) q
     have dz:Hid (Dw (Cm (E.set nh ⟨el,bF,bG,ad++[s]⟩)) (K.take j) (be.take (k+1))∧DB (E.set nh ⟨el,bF,bG,ad++[s]⟩)≤kc (K.take j)+(k+1)):=by
      obtain⟨G,ay,ao⟩:=dj.out;rw[Uw,KW fv.out,Uy bC.out (by simp)];refine⟨T.out.1.add (Ox bC.out) (fun jv hJ q=>?_) (fun r gb=>?_),by have:=T.out.2;omega⟩
      ·rw[f8.out]at hJ
       cases hJ;exact ga (q.trans ao)
      ·rw[ao]
       obtain⟨bv,bx⟩:=n5 (List.mem_of_mem_take gb);have c9:=(ny.1 bx).1;obtain⟨a1,da⟩:∃a1,d.x.dirKs[bv]? =some a1:=⟨_,nt (by rw[←ef.out.2.1];exact c9)⟩;obtain⟨_,_,e2,_,bo,_,_,eb,_⟩:=ef.out.2.2 bv a1 da;rw[bx]at bo;cases bo;exact eb
     clear gl d1 en dr du hE hH hI bf cr T ds bg bi;go_wp2;go_roundw
     case rel=>exact⟨k+1,_,by omega,by go_num,dz.out,dw.out,dx.out⟩
     case measure=>(simp[intOf];try omega)
end Go.Proofs.YtofhphibahcniaaGreatDoor
namespace Go.Proofs.YtofhphibahcniaaGreatDoor
open Go.RowKit Go.Shelf Go.Proofs.Tryz
structure IY (l:BM):Prop where
 ne:l≠[]
 ly:(l.map (·.2)).Nodup
 lil:∀q∈l,AB q.1
 lim:∀q∈l,Be q.1
 tot:tot l≤1000
 ids:∀q∈l,AP q.1
theorem Tc:∀l:BM,(Ey l).Sublist l
 |[]=>List.Sublist.refl _
 |q::r=>by
  rw[Ey];split
  ·exact List.nil_sublist _
  split
  ·exact List.Sublist.cons_cons _ (List.nil_sublist _)
  ·exact List.Sublist.cons_cons _ (Tc r)
theorem LM(l:BM):(Bq l).Sublist l:=by
 cases l with
 |nil=>exact List.Sublist.refl _
 |cons q r=>
  rw[Bq];split
  ·exact List.Sublist.cons_cons _ (List.nil_sublist _)
  ·exact Tc _
theorem NK(nm:BA):∀l:BM,((Bz nm l).map (·.2)).Sublist (l.map (·.2))
 |[]=>List.Sublist.refl _
 |q::r=>by
  have F:=NK nm r;unfold Bz at F⊢;rw[rt];cases Dr nm q.1 with
  |none=>exact List.Sublist.cons _ F
  |some y=>exact List.Sublist.cons_cons _ F
theorem UO{x y:Nd}{nm:BA}(h:AB x)(F:Dr nm x=some y):AB y:=by
 rw[Ki]at F;obtain⟨i,G⟩:=n5 (Lg (LE F));obtain⟨k,m,u,g,o,nh,d,ks⟩:=x;rw[AB]at h;exact(J9 h.2.2 G).2
theorem dO{x y:Nd}{nm:BA}(h:Be x)(F:Dr nm x=some y):Be y:=by
 rw[Ki]at F;obtain⟨i,G⟩:=n5 (Lg (LE F));obtain⟨k,m,u,g,o,nh,d,ks⟩:=x;rw[Be]at h;exact Ka h.2.2 G
theorem Om{l:BM}{nm:BA}{q:Nd×Nat}(h:q∈CK l nm):∃p∈l,Dr nm p.1=some q.1:=by
 obtain⟨p,F,e⟩:=rC.1 (H5 _ _ h);obtain⟨y,G,rfl⟩:=n0.1 e;exact⟨p,F,G⟩
theorem IY.next{l:BM}(h:IY l){nm:BA}(H:CK l nm≠[]):IY (CK l nm):=by
 refine⟨H,?_,fun q F=>?_,fun q F=>?_,?_,fun q F=>?_⟩
 ·exact(h.ly.sublist (NK nm l)).sublist ((LM _).map _)
 ·obtain⟨p,G,e⟩:=Om F
  exact UO (h.lil p G) e
 ·obtain⟨p,G,e⟩:=Om F
  exact dO (h.lim p G) e
 ·have:=ZA l nm;have:=h.tot;omega
 ·exact EQ.sh (EQ.kid h.ids nm) q F
theorem fF{D:List Sp}{l:BM}(h:D.map Sp.pr=l)(F:(l.map (·.2)).Nodup):∀(i j:Nat) a b,D[i]? =some a→D[j]? =some b→i≠j→a.ly≠b.ly:=by
 subst h;intro i j a b Q R T e;have V:(D.map (·.ly)).Nodup:=by rw[r4]at F;exact F
 have G:=rZ.1 V;obtain⟨H,I⟩:=ny.1 Q;obtain⟨J,O⟩:=ny.1 R;rcases Nat.lt_or_gt_of_ne T with q|q
 ·exact G i j (by simpa using H) (by simpa using J) q (by simp[I,O,e])
 ·exact G j i (by simpa using J) (by simpa using H) q (by simp[I,O,e])
end Go.Proofs.YtofhphibahcniaaGreatDoor
namespace Go.Proofs.YtofhphibahcniaaGreatDoor
open Go.RowKit Go.Proofs.Tryz
structure Ft (xs:List Nd):Prop where
 lil:∀x∈xs,AB x
 tot:tot (BJ xs)≤1000
 ids:∀x∈xs,AP x
theorem Jw{xs:List Nd}{q:Nd×Nat}(h:q∈BJ xs):q.1∈xs:=by
 unfold BJ at h;obtain⟨x,i⟩:=q;exact(List.mem_zipIdx' h).2▸List.getElem_mem _
theorem Ug:∀{l:BM} {q:Nd×Nat},q∈l→cnt q.1≤tot l
 |p::l,q,h=>by
  rw[tot];rcases nY.1 h with e|e
  ·rw[e];omega
  ·have:=Ug e;omega
theorem Si(xs:List Nd):(BJ xs).length=xs.length:=by unfold BJ;rw[List.length_zipIdx]
theorem Ft.len{xs:List Nd}(h:Ft xs):xs.length≤1000:=by
 have F:=LP (BJ xs);rw[Si]at F;have:=h.tot;omega
theorem Ft.small{xs:List Nd}(h:Ft xs):DL (BJ xs):=⟨by rw[Si];exact h.len,fun q F=>by have:=Ug F;have:=h.tot;omega⟩
theorem Ft.lim{xs:List Nd}(h:Ft xs):E0 (BJ xs):=fun q F=>GI q.1 (h.small.2 q F) (h.lil _ (Jw F))
theorem Ft.seen{xs:List Nd}(h:Ft xs)(G:Bq (BJ xs)≠[]):IY (Bq (BJ xs)):=by
 refine⟨G,?_,fun q F=>h.lil _ (Jw (H5 _ _ F)),fun q F=>h.lim q (H5 _ _ F),?_,fun q F=>h.ids _ (Jw (H5 _ _ F))⟩
 ·refine List.Nodup.sublist ((LM _).map _) ?_
  unfold BJ;rw[List.zipIdx_map_snd];exact List.nodup_range'
 ·have:=Ut (BJ xs);have:=h.tot;omega
theorem Xo(nf:List BA):∀{l:BM},(l≠[]→IY l)→nf.foldl (fun l nm=>Bq (Bz nm l)) l≠[]→IY (nf.foldl (fun l nm=>Bq (Bz nm l)) l):=by
 induction nf with
 |nil=>intro l h F;exact h F
 |cons nm nf H=>
  intro l h F;rw[rK]at F⊢;refine H (fun G=>?_) F;refine(h fun e=>G ?_).next (nm:=nm) G;rw[e];rfl
theorem Ft.stack{xs:List Nd}(h:Ft xs)(nf:List BA):AI xs nf≠[]→IY (AI xs nf):=Xo nf h.seen
def GL:BM→BM
 |[]=>[]
 |q::r=>if q.2=0 then r else q::r
def MC(l:BM):Prop:=(l.map (·.2)).Pairwise (·<·)
theorem NC(nm:BA):∀{l:BM},(∀q∈l,q.2≠0)→I2 true nm l=Bz nm l
 |[],_=>rfl
 |q::r,h=>by
  have F:=NC nm (l:=r) fun p G=>h p (n2 _ G);unfold I2 Bz at F⊢
  rw[rt,rt,F,nC (fun e=>h q (nK ..) e.2)]
theorem Xl(nm:BA){l:BM}(h:MC l):I2 true nm l=Bz nm (GL l):=by
 cases l with
 |nil=>rfl
 |cons q r=>
  unfold MC at h;rw[rh,rr]at h;have H:∀p∈r,p.2≠0:=fun p F=>by have:=h.1 p.2 (rW F);omega
  rw[GL];split
  ·rename_i e
   have I:=NC nm H;unfold I2 at I⊢;rw[rt,nD ⟨rfl,e⟩];exact I
  ·rename_i e
   exact NC nm fun p F=>by
    rcases nY.1 F with G|G
    ·rw[G];exact e
    ·exact H p G
theorem Xi(xs:List Nd):∀nf:List BA,MC (AI xs nf):=by
 intro nf;unfold AI;have F:MC (Bq (BJ xs)):=by
  refine List.Pairwise.sublist ((LM _).map _) ?_;unfold BJ;rw[List.zipIdx_map_snd];exact List.pairwise_lt_range'
 generalize Bq (BJ xs)=l at F⊢;induction nf generalizing l with
 |nil=>exact F
 |cons nm nf G=>
  rw[rK];refine G _ ?_;exact List.Pairwise.sublist ((LM _).map _) (List.Pairwise.sublist (NK nm l) F)
theorem Qz(xs:List Nd)(nf:List BA):∀i,i<nf.length→Kp true xs nf i=AI xs (nf.take i)
 |0,_=>rfl
 |i+1,h=>by
  have e:nf[i]? =some nf[i]:=nt (by omega);rw[Kp,e,Jm e,←Qz xs nf i (by omega)];have hd:decide (i+1=nf.length)=false:=nB (by omega);simp[hd,ZC]
def Fi(xs:List Nd)(nf:List BA):Bool:=decide (0<nf.length)&& !(Kp true xs nf nf.length).isEmpty
theorem YM{xs:List Nd}{nf:List BA}{n:Nat}{nm:BA}(F:nf.length=n+1)(G:nf[n]? =some nm):Fi xs nf= !(Bq (Bz nm (GL (AI xs (nf.take n))))).isEmpty:=by
 unfold Fi;rw[F,Kp,G,Qz xs nf n (by omega)];have hd:decide (n+1=nf.length)=true:=nF (by omega);simp[hd,Xl nm (Xi xs (nf.take n))]
theorem KU{l:BM}(h:DL l):DL (GL l):=by
 cases l with
 |nil=>exact h
 |cons q r=>
  rw[GL];split
  ·exact⟨by have:=h.1;rw[n3]at this;omega,fun p F=>h.2 p (n2 _ F)⟩
  ·exact h
theorem GZ{b c:Bool}(h:b=c):Ending.returned (.bool b)=.returned (.bool c):=by rw[h]
theorem Nj{w:World}{S:Nat→Bool}(bu:∀k,S k=true→k<w.heap.size){a:Option Addr}{cap:Nat}{xs:List Nd}{an:Option Addr}{nj:Nat}{nf:List BA}(hx:Cn (Ag w.cell? S) a xs)(bv:AW (Ag w.cell? S) an nf)(bx:Ft xs)(bH:nf.length≤1000)(bY:nf.length≤nj∧nj≤9223372036854775807):
 Calls prog 97 #[.slice a xs.length cap,.slice an nf.length nj] w fun e w'=>e=.returned (.bool (Fi xs nf))∧Below w.heap.size w w':=by
 have ar:Hid _:=bu;have bA:Hid _:=bv;have bB:Hid _:=hx;have a6:Hid _:=bx;obtain⟨N,ay⟩:∃N,Hid (nf.length=N):=⟨_,rfl⟩;rw[ay.out]at bY bH⊢;clear bu bv hx bx;go_enter func97,ntmps97;cases N with
 |zero=>
  go_wp2;go_ret;refine⟨GZ ?_,nv _ _⟩;unfold Fi;rw[ay.out];rfl
 |succ n=>
  obtain⟨nm,a7⟩:∃nm,nf[n]? =some nm:=⟨_,nt (by rw[ay.out];omega)⟩;have R:Hid _:=YM (xs:=xs) ay.out a7;obtain⟨bd,be,rfl,bf⟩:∃b ak,an=some ⟨b,ak,none⟩∧∀i s,nf[i]? =some s→Ag w.cell? S ⟨b,ak+i,none⟩=some (.string s):=by
   rcases bA.out with e|e
   ·subst e;simp at a7
   ·exact e
  have bC:(nf.take n).length=n:=by rw[rF,ay.out];omega
  have bg:Hid (Calls prog 75 #[.slice a xs.length cap,.slice (some ⟨bd,be,none⟩) n nj] w fun e w'=>∃v,e=.returned v∧ES (Ag w'.cell? S) v (AI xs (nf.take n))∧Below w.heap.size w w'):=by
   have e:=Ty (cap:=cap) (nj:=nj) (an:=some ⟨bd,be,none⟩) (nf:=nf.take n) ar.out bB.out (.inr ⟨bd,be,rfl,fun i s ao=>bf i s (by
    rw[rL]at ao;split at ao
    ·exact ao
    ·cases ao)⟩) a6.out.len (by omega) a6.out.small
   rw[bC]at e;exact e
  have bF:=Ci _ _ _ _ (bf n nm a7);have b6:IntKind.i64.wrap (((n+1:Nat):Int)-1)=(n:Int):=(EG (by omega) (by omega)).trans (by omega);have b7:IntKind.i64.wrap ((n:Int)+1-1)=(n:Int):=(EG (by omega) (by omega)).trans (by omega);have b0:(n:Int)≤(nj:Int):=by omega
  have b9:(0:Int)≤(n:Int):=by omega
  have b1:decide ((n:Int)+1=0)=false:=nB (by omega);have az:Hid (DL (AI xs (nf.take n))):=MV a6.out.small _;clear bf a7 bC bA bB a6;generalize AI xs (nf.take n)=bi at bg R az;go_wp2_with fail
  refine np bg.out ?_;rintro e G ⟨v,rfl,b2,I⟩;obtain⟨a8,vc,D,rfl,g1,cb,g3,g4,Y⟩:=b2;have cd:=Aj I _ _ bF;have cf:(n:Int)<(n:Int)+1:=by omega
  have cg:n<n+1:=by omega
  clear bF bg b1 b0;cases D with
  |nil=>
   have J:DH (Ag G.cell? S) a8 []:=g3;have q4:∀s∈([]:List Sp),CB (Ag G.cell? S) s:=g4;have q5:([]:List Sp).map Sp.pr=GL bi:=by rw[←Y];rfl
   clear g3 g4 Y;have F:Hid _:=J1 (A:=G) (S:=S) (cap:=vc) (w:=(G.alloc (.cells #[.slice a8 ([]:List Sp).length vc] 131)).alloc (.cells #[.string nm] 9)) (fun k Z=>nH (ar.out k Z) I.size) nm J q4 (by rw[q5];exact KU az.out) rfl;rw[q5]at F;clear J q4 q5;go_wp2_with fail
   refine np (JZ G a8 ([]:List Sp).length vc nm) ?_;rintro e bk ⟨rfl,rfl⟩;go_wp2_with fail
   refine np F.out ?_;rintro e bl ⟨v3,rfl,aa,ab⟩;obtain⟨a3,bn,H,rfl,_,_,_,_,O⟩:=aa;have Q:=I.trans (ab.mono I.size);cases H with
   |nil=>
    clear F;go_wp2;go_ret;exact⟨GZ (by rw[R.out,←O];rfl),Q⟩
   |cons bo H=>
    have ba:decide ((H.length:Int)+1>0)=true:=nF (by omega);have bp:decide ((0:Int)<(H.length:Int)+1)=true:=nF (by omega);clear F;go_wp2;go_ret;exact⟨GZ (by rw[R.out,←O];rfl),Q⟩
  |cons s D=>
   obtain⟨vb,vo,rfl,a1⟩:∃b ak,a8=some ⟨b,ak,none⟩∧∀i ap,(s::D)[i]? =some ap→Ag G.cell? S ⟨b,ak+i*2,none⟩=some (.pointer (some ⟨ap.b,ap.p,none⟩))∧Ag G.cell? S ⟨b,ak+i*2+1,none⟩=some (.int .i64 ap.ly):=by
    rcases g3 with e|e
    ·cases e
    ·exact e
   obtain⟨v0,bb⟩:=a1 0 _ rfl;have bb:=Ci _ _ _ _ bb;rw[r3,rT]at bb;obtain⟨V,T⟩:∃V,Hid (D.length=V):=⟨_,rfl⟩;have ba:decide ((V:Int)+1>0)=true:=nF (by omega);have ch:(0:Int)<(V:Int)+1:=by omega
   by_cases ad:s.ly=0
   ·have bs:(((s.ly:Nat):Int)==0)=true:=by rw[ad];rfl
    have bG:decide (((s.ly:Nat):Int)=0)=true:=nF (by omega);rw[ad]at bb;have q4:∀s∈D,CB (Ag G.cell? S) s:=fun t b3=>g4 t (n2 _ b3);have q5:D.map Sp.pr=GL bi:=by
     rw[←Y,rh,GL,nD (show(Sp.pr s).2=0 from ad)]
    have cl:Hid ((s::D).length=V+1):=by show _=_;rw[n3,T.out]
    simp only[n3]at g1;rw[T.out]at g1;by_cases b4:vc=1
    ·subst b4
     have J:DH (Ag G.cell? S) (some ⟨vb,vo,none⟩) D:=.inl (nX (by rw[T.out];omega));obtain rfl:D=[]:=nX (by rw[T.out];omega);obtain rfl:V=0:=T.out.symm;clear g3 g4 Y a1 ad bs bG;simp only[n3,nR];have F:Hid _:=J1 (A:=G) (S:=S) (cap:=0) (w:=(G.alloc (.cells #[.slice (some ⟨vb,vo,none⟩) ([]:List Sp).length 0] 131)).alloc (.cells #[.string nm] 9)) (fun k Z=>nH (ar.out k Z) I.size) nm J q4 (by rw[q5];exact KU az.out) rfl;rw[q5]at F;simp only[nR]at F;clear J q4 q5;go_wp2_with fail
     refine np (JZ G (some ⟨vb,vo,none⟩) 0 0 nm) ?_;rintro e bk ⟨rfl,rfl⟩;go_wp2_with fail
     refine np F.out ?_;rintro e bl ⟨v3,rfl,aa,ab⟩;obtain⟨a3,bn,H,rfl,_,_,_,_,O⟩:=aa;have Q:=I.trans (ab.mono I.size);cases H with
     |nil=>
      clear F;go_wp2;go_ret;exact⟨GZ (by rw[R.out,←O];rfl),Q⟩
     |cons bo H=>
      have ba:decide ((H.length:Int)+1>0)=true:=nF (by omega);have bp:decide ((0:Int)<(H.length:Int)+1)=true:=nF (by omega);clear F;go_wp2;go_ret;exact⟨GZ (by rw[R.out,←O];rfl),Q⟩
    ·have J:DH (Ag G.cell? S) (some ⟨vb,vo+2,none⟩) D:=.inr ⟨vb,vo+2,rfl,fun i ap ao=>by
      have b5:=a1 (i+1) ap (by simpa using ao);rw[show vo+2+i*2=vo+(i+1)*2 by omega];exact b5⟩
     clear g3 g4 Y a1 ad bs bG;simp only[n3];rw[T.out];have F:Hid _:=J1 (A:=G) (S:=S) (cap:=(vc-1)) (w:=(G.alloc (.cells #[.slice (some ⟨vb,vo+2,none⟩) D.length (vc-1)] 131)).alloc (.cells #[.string nm] 9)) (fun k Z=>nH (ar.out k Z) I.size) nm J q4 (by rw[q5];exact KU az.out) rfl;rw[q5]at F;rw[T.out]at F;clear J q4 q5;go_wp2_with fail
     refine np (JZ G (some ⟨vb,vo+2,none⟩) V (vc-1) nm) ?_;rintro e bk ⟨rfl,rfl⟩;go_wp2_with fail
     refine np F.out ?_;rintro e bl ⟨v3,rfl,aa,ab⟩;obtain⟨a3,bn,H,rfl,_,_,_,_,O⟩:=aa;have Q:=I.trans (ab.mono I.size);cases H with
     |nil=>
      clear F;go_wp2;go_ret;exact⟨GZ (by rw[R.out,←O];rfl),Q⟩
     |cons bo H=>
      have ba:decide ((H.length:Int)+1>0)=true:=nF (by omega);have bp:decide ((0:Int)<(H.length:Int)+1)=true:=nF (by omega);clear F;go_wp2;go_ret;exact⟨GZ (by rw[R.out,←O];rfl),Q⟩
   ·have bs:(((s.ly:Nat):Int)==0)=false:=by simp;omega
    have J:DH (Ag G.cell? S) (some ⟨vb,vo,none⟩) (s::D):=g3;have q4:∀t∈s::D,CB (Ag G.cell? S) t:=g4;have q5:(s::D).map Sp.pr=GL bi:=by
     rw[←Y,rh,GL,nC (show¬(Sp.pr s).2=0 from ad)]
    clear g3 g4 Y a1 ad;simp only[n3];rw[T.out];have F:Hid _:=J1 (A:=G) (S:=S) (cap:=vc) (w:=(G.alloc (.cells #[.slice (some ⟨vb,vo,none⟩) (s::D).length vc] 131)).alloc (.cells #[.string nm] 9)) (fun k Z=>nH (ar.out k Z) I.size) nm J q4 (by rw[q5];exact KU az.out) rfl;rw[q5]at F;simp only[n3]at F;rw[T.out]at F;clear J q4 q5;go_wp2_with fail
    refine np (JZ G (some ⟨vb,vo,none⟩) (V+1) vc nm) ?_;rintro e bk ⟨rfl,rfl⟩;go_wp2_with fail
    refine np F.out ?_;rintro e bl ⟨v3,rfl,aa,ab⟩;obtain⟨a3,bn,H,rfl,_,_,_,_,O⟩:=aa;have Q:=I.trans (ab.mono I.size);cases H with
    |nil=>
     clear F;go_wp2;go_ret;exact⟨GZ (by rw[R.out,←O];rfl),Q⟩
    |cons bo H=>
     have ba:decide ((H.length:Int)+1>0)=true:=nF (by omega);have bp:decide ((0:Int)<(H.length:Int)+1)=true:=nF (by omega);clear F;go_wp2;go_ret;exact⟨GZ (by rw[R.out,←O];rfl),Q⟩
def Bo(x:Int):Bool:=decide (0≤x)&&decide (x≤65535)
def A6(w:World)(a:Option Addr)(F:List Int):Prop:=
 F=[]∨∃b G,a=some ⟨b,G,none⟩∧∀i,i<F.length→w.cell? ⟨b,G+i,none⟩=some (.int .i64 (F.getD i 0))
theorem A6.below{w w':World}{a:Option Addr}{F:List Int}(h:A6 w a F)(hb:Below w.heap.size w w'):A6 w' a F:=by
 rcases h with h|⟨b,G,H,I⟩
 ·exact .inl h
 ·exact .inr ⟨b,G,H,fun i J=>by
   have:=I i J;have O:=bL this;rw[hb.cell (p:=(aD b (G+i))) O];exact this⟩
theorem Hg{W F:World}(hb:Below W.heap.size W F):(∀b o,b<W.heap.size→F.cell? (aD b o)=W.cell? (aD b o))∧(∀b o,b<W.heap.size→F.frozen? (aD b o)=W.frozen? (aD b o)):=
 ⟨fun b o h=>hb.cell (p:=(aD b o)) h,fun b o h=>hb.frozen (p:=(aD b o)) h⟩
theorem EW(x:Int)(w:World):Calls prog 42 #[iN x] w fun e w'=>e=.returned (.bool (Bo x))∧w=w':=by
 by_cases h:0≤x
 ·go_enter func42,ntmps42
  go_wp2;go_ret;exact⟨Bh (by simp[Bo,h]),rfl⟩
 ·have hd:decide (0≤x)=false:=by simpa using h
  go_enter func42,ntmps42;go_wp2;go_ret;exact⟨Bh (by simp[Bo,hd]),rfl⟩
theorem SV{F:List Int}{k:Nat}{x:Int}(G:k<F.length)(H:(F.take k).contains x=false)(I:¬F[k]=x):(F.take (k+1)).contains x=false:=by
 have J:¬x∈F.take k:=by simpa using H
 have O:¬x∈F.take (k+1):=by
  rw[List.take_succ_eq_append_getElem G,rd];rintro(h|h)
  ·exact J h
  ·exact I (by simpa using(rj.1 h).symm)
 simpa using O
def En(g:Int)(F:List Int)(x:Int):Bool:=(x==g)||F.contains x
theorem Lo(u g x c:Int)(a:Option Addr)(cap:Nat)(F:List Int)(w:World)(T:F.length≤8)(h:A6 w a F):
 Calls prog 148 #[.agg #[iN u,iN g,.slice a F.length cap,iN c],iN x] w fun e w'=>
  e=.returned (.bool (En g F x))∧Below w.heap.size w w':=by
 by_cases hx:x=g
 ·subst hx
  go_enter func148,ntmps148;go_wp2;go_ret;exact⟨Bh (by simp[En]),bN⟩
 ·have J:(x==g)=false:=by simpa using hx
  go_enter func148,ntmps148;go_wp2;go_loop [14] (fun i=>∃k:Nat,k≤F.length∧i=iN k∧(F.take k).contains x=false) (fun i=>F.length-(intOf i).toNat)
  case atStart=>exact⟨0,nN _,rfl,rfl⟩
  case round=>
   obtain⟨k,V,rfl,H⟩:=hrel;by_cases I:k<F.length
   ·rcases h with rfl|⟨b,Y,rfl,O⟩
    ·simp at I
    ·have Q:=O k I
     have Z:b<w.heap.size:=bL Q;by_cases G:F[k]=x
     ·have R:(F[k]==x)=true:=by simpa using G
      go_wp2;go_ret;exact⟨Bh (by simp[En,←G]),bN⟩
     ·have R:(F[k]==x)=false:=by simpa using G
      go_wp2;go_round
      case rel=>exact⟨k+1,by omega,by go_num,SV I H G⟩
      case measure=>simp[intOf];omega
   ·go_wp2
    go_ret;rw[n1 (by omega)]at H;exact⟨Bh (by simp[En,J];simpa using H),bN⟩
theorem II(u g c x:Int)(v:Value)(w:World):
 Calls prog 136 #[.agg #[iN u,iN g,v,iN c],iN x] w fun e w'=>
  e=.returned (.bool (bits .and .i64 c x==x))∧Below w.heap.size w w':=by
 go_enter func136,ntmps136;go_wp2;go_ret;exact⟨rfl,bN⟩
def Fa(F:List Int)(k:Nat):Int:=if Bo (F.getD k 0)=false then 1 else if 0<k∧F.getD k 0≤F.getD (k-1) 0 then 3 else 0
def gF(F:List Int):Nat→Nat→Int
 |_,0=>0
 |k,n+1=>if Fa F k=0 then gF F (k+1) n else Fa F k
def Cx(u g:Int)(F:List Int)(c:Int):Int:=
 if Bo u=false∨Bo g=false∨c<0∨15<c then 1 else if 4<F.length then 2 else gF F 0 F.length
theorem VN{F:List Int}{k n:Nat}(h:Fa F k=0):gF F k (n+1)=gF F (k+1) n:=by simp[gF,h]
theorem U9{F:List Int}{k n:Nat}(h:¬Fa F k=0):gF F k (n+1)=Fa F k:=by simp[gF,h]
theorem SY{F:List Int}{k:Nat}(h:Bo (F.getD k 0)=false):Fa F k=1:=by unfold Fa;rw[nD h]
theorem Sy{F:List Int}{k:Nat}(h:Bo (F.getD k 0)=true)(G:0<k)(H:F.getD k 0≤F.getD (k-1) 0):Fa F k=3:=by
 unfold Fa;rw[nC (by rw[h];decide),nD ⟨G,H⟩]
theorem Y6{F:List Int}(h:Bo (F.getD 0 0)=true):Fa F 0=0:=by
 unfold Fa;rw[nC (by rw[h];decide),nC (by omega)]
theorem Z9{F:List Int}{k:Nat}(h:Bo (F.getD k 0)=true)(G:¬F.getD k 0≤F.getD (k-1) 0):Fa F k=0:=by
 unfold Fa;rw[nC (by rw[h];decide),nC (by intro H;exact G H.2)]
theorem YX{u g c:Int}{F:List Int}(G:Bo u=true)(H:Bo g=true)(J:¬c<0)(O:¬15<c)(I:¬4<F.length):Cx u g F c=gF F 0 F.length:=by
 unfold Cx;rw[nC (by simp[G,H];omega),nC I]
theorem XR{u g c:Int}{F:List Int}(G:Bo u=true)(H:Bo g=true)(J:¬c<0)(O:¬15<c)(I:4<F.length):Cx u g F c=2:=by
 unfold Cx;rw[nC (by simp[G,H];omega),nD I]
theorem Le{u g c:Int}{F:List Int}(h:Bo u=false∨Bo g=false∨c<0∨15<c):Cx u g F c=1:=by unfold Cx;rw[nD h]
theorem Hs(u g c:Int)(a:Option Addr)(cap:Nat)(F:List Int)(w:World)(a8:F.length≤8)(h:A6 w a F):
 Calls prog 25 #[.agg #[iN u,iN g,.slice a F.length cap,iN c]] w fun e w'=>
  e=.returned (Am (Cx u g F c))∧Below w.heap.size w w':=by
 by_cases Y:Bo u=false
 ·go_enter func25,ntmps25
  go_wp2_with (go_at_call 42;refine(EW _ _).mono ?_;rintro e w' ⟨rfl,rfl⟩)
  go_ret;exact⟨Cp (AG (Le (.inl Y)) (by decide)).symm,bN⟩
 have ad:Bo u=true:=by simpa using Y
 clear Y;by_cases Z:Bo g=false
 ·go_enter func25,ntmps25
  go_wp2_with (go_at_call 42;refine(EW _ _).mono ?_;rintro e w' ⟨rfl,rfl⟩)
  go_ret;exact⟨Cp (AG (Le (.inr (.inl Z))) (by decide)).symm,bN⟩
 have ak:Bo g=true:=by simpa using Z
 clear Z;by_cases T:c<0
 ·go_enter func25,ntmps25
  go_wp2_with (go_at_call 42;refine(EW _ _).mono ?_;rintro e w' ⟨rfl,rfl⟩)
  go_ret;exact⟨Cp (AG (Le (.inr (.inr (.inl T)))) (by decide)).symm,bN⟩
 have ba:decide (c<0)=false:=by simpa using T
 by_cases V:15<c
 ·go_enter func25,ntmps25
  go_wp2_with (go_at_call 42;refine(EW _ _).mono ?_;rintro e w' ⟨rfl,rfl⟩)
  go_ret;exact⟨Cp (AG (Le (.inr (.inr (.inr V)))) (by decide)).symm,bN⟩
 have bb:decide (15<c)=false:=by simpa using V
 by_cases ao:4<F.length
 ·have az:Hid (Cx u g F c=2):=XR ad ak T V ao
  go_enter func25,ntmps25;go_wp2_with (go_at_call 42;refine(EW _ _).mono ?_;rintro e w' ⟨rfl,rfl⟩)
  go_ret;exact⟨Cp (AG az.out (by decide)).symm,bN⟩
 have aa:=hid (YX ad ak T V ao);go_enter func25,ntmps25;go_wp2_with (go_at_call 42;refine(EW _ _).mono ?_;rintro e w' ⟨rfl,rfl⟩)
 go_loop [34] (fun i=>∃k:Nat,k≤F.length∧i=iN k∧Hid (gF F 0 F.length=gF F k (F.length-k))) (fun i=>F.length-(intOf i).toNat)
 case atStart=>exact⟨0,nN _,rfl,rfl⟩
 case round=>
  obtain⟨k,bd,rfl,O⟩:=hrel;by_cases J:k<F.length
  ·rcases h with rfl|⟨b,a1,rfl,ap⟩
   ·simp at J
   ·have ab:=ap k J
    have be:b<w.heap.size:=bL ab;have H:Hid (gF F k (F.length-k)=gF F k ((F.length-(k+1))+1)):=by show _=_;congr 1;omega
    by_cases Q:Bo (F.getD k 0)=false
    ·have a6:Bo F[k]=false:=by simpa [J]using Q
     go_wp2_with (go_at_call 42;refine(EW _ _).mono ?_;rintro e w' ⟨rfl,rfl⟩)
     go_ret;exact⟨Cp (AG (by rw[aa.out,O.out,H.out,U9 (by rw[SY Q];decide),SY Q]) (by decide)).symm,bN⟩
    ·have G:Bo (F.getD k 0)=true:=by simpa using Q
     have a6:Bo F[k]=true:=by simpa [J]using G
     clear Q;rcases k with _|j
     ·have R:Hid (gF F 0 (F.length-0)=gF F 1 (F.length-1)):=H.out.trans (VN (Y6 G))
      have bf:Ce w b a1 (iN (F.getD 0 0)):=ab
      clear G H ab;go_wp2_with (go_at_call 42;refine(EW _ _).mono ?_;rintro e w' ⟨rfl,rfl⟩)
      go_round
      case rel=>exact⟨1,by omega,rfl,O.out.trans R.out⟩
      case measure=>simp[intOf];omega
     ·have bg:=ap j (by omega)
      have ar:j<F.length:=by omega
      by_cases I:F.getD (j+1) 0≤F.getD j 0
      ·have R:Hid (gF F (j+1) (F.length-(j+1))=3):=H.out.trans ((U9 (by rw[Sy G (by omega) I];decide)).trans (Sy G (by omega) I))
       have ay:F[j+1]≤F[j]:=by simpa [J,ar]using I
       clear G H I;go_wp2_with (go_at_call 42;refine(EW _ _).mono ?_;rintro e w' ⟨rfl,rfl⟩)
       go_ret;exact⟨Cp (AG (by rw[aa.out,O.out,R.out]) (by decide)).symm,bN⟩
      ·have R:Hid (gF F (j+1) (F.length-(j+1))=gF F (j+2) (F.length-(j+2))):=H.out.trans (VN (Z9 G I))
       have ay:¬F[j+1]≤F[j]:=by simpa [J,ar]using I
       have bi:decide (F[j+1]≤F[j])=false:=by simpa using ay
       clear G H I;go_wp2_with (go_at_call 42;refine(EW _ _).mono ?_;rintro e w' ⟨rfl,rfl⟩)
       go_round
       case rel=>exact⟨j+2,by omega,by go_num,O.out.trans R.out⟩
       case measure=>simp[intOf];omega
  ·have a7:F.length-k=0:=by omega
   go_wp2;go_ret;exact⟨Cp (Co (by rw[aa.out,O.out,a7];rfl)).symm,bN⟩
theorem IL{a b:Int}(h:a=b):Ending.returned (.int .i64 a)=.returned (.int .i64 b):=by rw[h]
def I8(n b:Int):Bool:=(n / b)%2==1
end Go.Proofs.YtofhphibahcniaaGreatDoor
