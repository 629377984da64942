/-
  TopQuota: Mc Md Me Mf Mg Wn.
-/
import Derived.Test.YtofhphibahcniaaGreatDoorApX
import Derived.Test.YtofhphibahcniaaGreatDoorMaX
import Derived.RangeFuncBox
import Derived.Lib.AppendZeros
set_option maxRecDepth 100000
set_option maxHeartbeats 16000000
namespace Go.Proofs.YtofhphibahcniaaGreatDoor
open Go.RowKit Go.Shelf Go.Proofs.Tryz
theorem aH(n m:BA)(x:Nd)(h:Hd)(F:Nat)(w:World)(H:w.cell? (aD F 0)=some (.string m)):
 Calls prog 177 #[PI n x h,pO F 0] w fun e w'=>e=.returned (.bool (decide (n=m)))∧Below w.heap.size w w':=by
 obtain⟨k,G,u,g,o,nh,d,ks⟩:=x;have I:Below w.heap.size w (w.alloc (.cells #[.string n,iN k,iN G,iN u,iN g,.bool o,.slice h.aa nh.length h.ca,.string d,.slice h.ak ks.length h.ck] 89)):=bN;have c0:=Ji.newW w n k G u g o nh d ks h 89;have c1:Ce (w.alloc (.cells #[.string n,iN k,iN G,iN u,iN g,.bool o,.slice h.aa nh.length h.ca,.string d,.slice h.ak ks.length h.ck] 89)) F 0 (.string m):=(I.cell (p:=(aD F 0)) (bL H)).trans H;have J:F<w.heap.size:=bL H;show cL 177 #[.agg #[.string n,iN k,iN G,iN u,iN g,.bool o,.slice h.aa nh.length h.ca,.string d,.slice h.ak ks.length h.ck],pO F 0] _ _;go_enter func177,ntmps177;go_wp2;go_ret;exact⟨Bh (by rw[←Vz]),I⟩
theorem ST(a:Option Addr)(cap H:Nat)(ks:Ar)(m:BA)(w:World)(bo:ks.length≤1000)(h:Ea w.cell? a ks)(O:w.cell? (aD H 0)=some (.string m)):
 Calls prog 174 #[.slice a ks.length cap,.func (.func 177) #[] #[pO H 0]] w fun e w'=>e=.returned (iN (CF (fun n=>decide (n=m)) ks 0))∧Below w.heap.size w w':=by
 obtain⟨F,Q⟩:∃F,Hid (CF (fun n=>decide (n=m)) ks 0=F):=⟨_,rfl⟩;rw[Q.out];have ay:=hid O;have ad:=hid h;have az:H<w.heap.size:=bL O;clear O h;by_cases R:ks=[]
 ·subst R
  have T:=hid Q.out.symm;go_enter func174,ntmps174;go_wp2;go_loop [8] (fun i=>i=iN 0) (fun _=>0)
  case atStart=>rfl
  case round=>
   subst hrel;go_wp2;go_ret;exact⟨Du T.out.symm,nv _ _⟩
 obtain⟨b,I,rfl,f,J⟩:∃b I,a=some (aD b I)∧∃f:Nat→Hd,∀i n x,ks[i]? =some (n,x)→Dq w.cell? b (I+i*9) n x (f i):=by
  rcases ad.out with e|⟨b,I,e,f,J⟩
  ·exact absurd e R
  ·exact⟨b,I,e,f,fun i n x a1=>(J i n x a1).1⟩
 have a6:=hid J;clear J R ad;go_enter func174,ntmps174;go_wp2;go_loopw [8] (fun i wr=>∃j:Nat,j≤ks.length∧i=iN j∧Hid (F=CF (fun n=>decide (n=m)) (ks.drop j) j)∧Below w.heap.size w wr) (fun i _=>ks.length-(intOf i).toNat)
 case atStart=>exact⟨0,nN _,rfl,Q.out.symm,nv _ _⟩
 case round=>
  obtain⟨j,bp,rfl,V,G⟩:=hrel;by_cases a7:j<ks.length;rotate_left
  ·have a8:decide ((j:Int)<(ks.length:Int))=false:=nB (by omega)
   have T:Hid (F=-1):=by show _=_;rw[V.out,n7 (by omega),CF]
   go_wp2;go_ret;exact⟨Du T.out.symm,G⟩
  have a8:(j:Int)<(ks.length:Int):=by omega
  obtain⟨⟨n,x⟩,hx⟩:∃x,ks[j]? =some x:=⟨ks[j],by simp[a7]⟩;have Y:=(a6.out j n x hx).below G;have ak:=(G.cell (p:=(aD H 0)) az).trans ay.out;have Z:=hid (V.out.trans (Ny hx));clear hx V;generalize f j=ba at Y;have ao:=aH n m x ba H wr ak;have aa:=hid ao;obtain⟨t,ap⟩:∃t,(decide (n=m))=t:=⟨_,rfl⟩;rw[ap]at Z aa;clear ap ao ak;obtain⟨bs,bu,bv,bx,bA,bB,bC,bF⟩:=x;obtain⟨bb,bd,be,bf,bg,bi,bk,bl,bn⟩:=Y.nine;clear Y;go_wp2_with fail
  refine aa.out.mono ?_;rintro e bG ⟨rfl,c2⟩;have ar:=G.trans (c2.mono G.size);clear bb bd be bf bg bi bk bl bn c2 G aa;cases t
  ·have ab:Hid (F=CF (fun n=>decide (n=m)) (ks.drop (j+1)) (j+1)):=by show _=_;rw[Z.out,nC (by simp)]
   go_wp2;go_roundw
   case rel=>exact⟨j+1,by omega,by go_num,ab.out,ar⟩
   case measure=>simp[intOf];omega
  ·have ab:Hid (F=j):=by show _=_;rw[Z.out,nD rfl]
   go_wp2;go_ret;exact⟨Du ab.out.symm,ar⟩
theorem Bi.split{c:AH}{b p:Nat}{k m u g:Int}{o:Bool}{nh:List Kv}{d:BA}{ks:Ar}{h:Hd}(F:Bi c b p (.mk k m u g o nh d ks) h):c ⟨b,p,none⟩=some (.int .i64 k)∧c ⟨b,p+4,none⟩=some (.bool o)∧c ⟨b,p+7,none⟩=some (.slice h.ak ks.length h.ck):=⟨F.1,F.2.2.2.2.1,F.2.2.2.2.2.2.2⟩
theorem GF(w:World)(u v:Value)(t:TypeId):(w.alloc (.cells #[u,v] t)).cell? ⟨w.heap.size,0,none⟩=some u∧(w.alloc (.cells #[u,v] t)).cell? ⟨w.heap.size,1,none⟩=some v:=⟨nl _ _ _ _ rfl,nl _ _ _ _ rfl⟩
def Nd.dirKs(x:Nd):Ar:=if x.kind=2 then x.kids else []
theorem SI{w:World}{s:Sp}(H:CB w.cell? s):
 Calls prog 118 #[s.v] w fun e w'=>e=.returned (if s.x.kind=2 then .slice s.h.ak s.x.kids.length s.h.ck else .slice none 0 0)∧Below w.heap.size w w':=by
 obtain⟨b,p,ly,⟨k,m,u,g,o,nh,d,ks⟩,h⟩:=s;have F:Below w.heap.size w (w.alloc (.cells #[pO b p,iN ly] 179)):=bN;obtain⟨c0,c1⟩:=GF w (pO b p) (iN ly) 179;obtain⟨I,O,J⟩:=(H.1.below F).split;show cL 118 #[.agg #[pO b p,iN ly]] w fun e w'=>e=.returned (if k=2 then .slice h.ak ks.length h.ck else .slice none 0 0)∧Below w.heap.size w w';dsimp only at I J
 by_cases G:k=2
 ·subst G
  go_enter func118,ntmps118;go_wp2;go_ret;exact⟨rfl,F⟩
 ·rw[nC G]
  go_enter func118,ntmps118;go_wp2;go_ret;exact⟨rfl,F⟩
theorem aK{c:AH}{s:Sp}(O:CB c s)(nm:BA):
 (Hl nm s.x=-1∧CF (fun n=>decide (n=nm)) s.x.dirKs 0=-1)∨∃(b F j:Nat) (y:Nd) (J:Hd),s.x.kind=2∧s.h.ak=some (aD b F)∧Hl nm s.x=j∧CF (fun n=>decide (n=nm)) s.x.dirKs 0=j∧s.x.kids[j]? =some (nm,y)∧j<s.x.kids.length∧CB c ⟨b,F+j*9+1,s.ly,y,J⟩:=by
 obtain⟨b,p,ly,⟨k,m,u,g,o,nh,d,ks⟩,h⟩:=s;show((if k=2 then BD nm ks 0 else-1)=-1∧CF (fun n=>decide (n=nm)) (if k=2 then ks else []) 0=-1)∨∃(b F j:Nat) (y:Nd) (J:Hd),k=2∧h.ak=some (aD b F)∧(if k=2 then BD nm ks 0 else-1)=(j:Int)∧CF (fun n=>decide (n=nm)) (if k=2 then ks else []) 0=j∧ks[j]? =some (nm,y)∧j<ks.length∧CB c ⟨b,F+j*9+1,ly,y,J⟩;by_cases G:k=2
 ·rw[nD G,nD G,NY]
  rcases IR nm ks 0 with⟨H,_⟩|⟨j,x,H,I,_⟩
  ·exact .inl ⟨H,H⟩
  ·right
   obtain⟨_,_,_,Q⟩:=Cq.1 O.2;rcases Q with e|⟨R,F,e,f,T⟩
   ·subst e;simp at I
   ·obtain⟨g1,V⟩:=T j nm x I
    refine⟨R,F,j,x,f j,G,e,by rw[H];simp,by rw[H];simp,I,(ny.1 I).1,g1.2,V⟩
 ·rw[nC G,nC G]
  exact .inl ⟨rfl,rfl⟩
attribute [local go_sem] Oper.semAt_some
theorem Ip{B:Nat}{a w:World}(h:Below B a w)(n:Nat):Below B a (w.drewN n):=⟨h.os,h.tape,h.output,h.size,h.block⟩
def KO(c:AH)(nm:BA)(d:Sp)(o:Option Sp):Prop:=
 (o=none∧Hl nm d.x=-1∧CF (fun n=>decide (n=nm)) d.x.dirKs 0=-1)∨∃(b F j:Nat) (y:Nd) (G:Hd),o=some ⟨b,F+j*9+1,d.ly,y,G⟩∧d.x.kind=2∧d.h.ak=some ⟨b,F,none⟩∧Hl nm d.x=j∧CF (fun n=>decide (n=nm)) d.x.dirKs 0=j∧d.x.kids[j]? =some (nm,y)∧j<d.x.kids.length∧CB c ⟨b,F+j*9+1,d.ly,y,G⟩
theorem fD{c:AH}{d:Sp}(F:CB c d)(nm:BA):∃o,KO c nm d o:=by
 rcases aK F nm with h|⟨b,G,j,y,H,h⟩
 ·exact⟨none,.inl ⟨rfl,h⟩⟩
 ·exact⟨some _,.inr ⟨b,G,j,y,H,rfl,h⟩⟩
theorem eD{c:AH}{D:List Sp}(G:∀(i:Nat) d,D[i]? =some d→CB c d)(nm:BA):∃H:Nat→Option Sp,∀(i:Nat) d,D[i]? =some d→KO c nm d (H i):=by
 have F:∀i:Nat,∃o,∀d,D[i]? =some d→KO c nm d o:=fun i=>by
  cases h:D[i]? with
  |none=>exact⟨none,fun d hd=>by cases hd⟩
  |some d=>
   obtain⟨o,I⟩:=fD (G i d h) nm;exact⟨o,fun e J=>by cases J;exact I⟩
 exact⟨fun i=>Classical.choose (F i),fun i d O=>rg (F i) d O⟩
def Dr(nm:BA)(x:Nd):Option Nd:=if Hl nm x<0 then none else(x.kids[(Hl nm x).toNat]?).map (·.2)
def Bz(nm:BA)(l:List (Nd×Nat)):List (Nd×Nat):=l.filterMap fun q=>(Dr nm q.1).map fun y=>(y,q.2)
theorem KO.pr{c:AH}{nm:BA}{d:Sp}{o:Option Sp}(h:KO c nm d o):o.map Sp.pr=(Dr nm d.x).map fun y=>(y,d.ly):=by
 unfold Dr;rcases h with⟨rfl,e,_⟩|⟨b,G,j,y,H,rfl,_,_,e,_,F,_⟩
 ·rw[e];simp
 ·rw[e,nC (by omega)]
  simp[F,Sp.pr]
theorem KO.at{c:AH}{nm:BA}{d:Sp}{o:Option Sp}(h:KO c nm d o):∀s,o=some s→CB c s:=by
 rcases h with⟨rfl,_⟩|⟨b,G,j,y,H,rfl,_,_,_,_,_,_,h⟩
 ·intro s F;cases F
 ·intro s F;cases F;exact h
theorem Ql:∀(D:List Sp) (F:Nat→Option Sp) (G:Nd×Nat→Option (Nd×Nat)),(∀i d,D[i]? =some d→(F i).map Sp.pr=G d.pr)→((List.range D.length).filterMap F).map Sp.pr=(D.map Sp.pr).filterMap G
 |[],F,G,_=>rfl
 |d::D,F,G,h=>by
  have H:=Ql D (fun i=>F (i+1)) G fun i e I=>h (i+1) e (by simpa using I);have J:=h 0 d rfl
  have O:List.filterMap F (List.map Nat.succ (List.range D.length))=List.filterMap (fun i=>F (i+1)) (List.range D.length):=by rw[List.filterMap_map];rfl
  rw[n3,List.range_succ_eq_map,rt,rh,rt,←J,O];cases F 0 with
  |none=>exact H
  |some s=>simp only[rh,r0];rw[H]
theorem cR(F:Nat→Option Sp)(N i:Nat)(H:i<N){s:Sp}(G:F i=some s):((List.range N).filterMap F)[((List.range i).filterMap F).length]? =some s:=by
 obtain⟨k,rfl⟩:∃k,N=(i+1)+k:=⟨N-(i+1),by omega⟩;rw[List.range_add,List.filterMap_append,List.range_succ,List.filterMap_append];simp[G]
theorem RK(F:Nat→Option Sp)(i:Nat):((List.range (i+1)).filterMap F).length=((List.range i).filterMap F).length+(if(F i).isSome then 1 else 0):=by
 rw[List.range_succ,List.filterMap_append];cases h:F i<;>simp[h]
def DH(c:AH)(a:Option Addr)(D:List Sp):Prop:=D=[]∨∃b F,a=some ⟨b,F,none⟩∧∀i d,D[i]? =some d→c ⟨b,F+i*2,none⟩=some (.pointer (some ⟨d.b,d.p,none⟩))∧c ⟨b,F+i*2+1,none⟩=some (.int .i64 d.ly)
theorem bI{w:World}{d:Sp}(I:CB w.cell? d)(nm:BA)(F:Nat)(J:d.x.kids.length≤1000)(H:w.cell? (aD F 0)=some (.string nm)):
 Calls prog 174 #[if d.x.kind=2 then .slice d.h.ak d.x.kids.length d.h.ck else .slice none 0 0,.func (.func 177) #[] #[pO F 0]] w fun e w'=>e=.returned (iN (CF (fun n=>decide (n=nm)) d.x.dirKs 0))∧Below w.heap.size w w':=by
 unfold Nd.dirKs;by_cases G:d.x.kind=2
 ·rw[nD G,nD G]
  obtain⟨b,p,ly,⟨k,m,u,g,o,nh,O,ks⟩,h⟩:=d;exact ST h.ak h.ck F ks nm w J (Cq.1 I.2).2.2.2 H
 ·rw[nC G,nC G]
  exact ST none 0 F [] nm w (by simp) (.inl rfl) H
theorem WV(I F n₀:Nat)(a:Option Addr)(cap:Nat)(D:List Sp)(nm:BA)(G:Nat→Option Sp)(w:World)(b6:n₀=w.heap.size)(hd:w.cell? (aD I 0)=some (.slice a D.length cap))(ab:w.cell? (aD F 0)=some (.string nm))(b7:D.length≤1000)(ba:∀d∈D,d.x.kids.length≤1000)
 (bb:DH w.cell? a D) (bd:∀(i:Nat) d,D[i]? =some d→CB w.cell? d) (be:∀(i:Nat) d,D[i]? =some d→KO w.cell? nm d (G i)):
 MR 176 #[pO I 0,pO F 0] n₀ w ((List.range D.length).filterMap G):=by
 subst b6;intro l ad bf W bg J bi b9;have cb:I<w.heap.size:=bL hd;have cd:F<w.heap.size:=bL ab;have cf:=(bg.cell (p:=(aD I 0)) cb).trans hd;show CallsIn Fence.wide 0 prog 176 #[.func (.yield l) #[] #[],pO I 0,pO F 0] W _;refine callsIn_of_wp func176 rfl trivial ?_ rfl;simp only[ntmps176,List.size_toArray,n3,nR,Nat.reduceAdd,Nat.reduceSub,r9,r8,List.push_toArray,List.append_toArray,ru,n9];have ak:Hid _:=bi;have cg:Hid _:=bb;have ao:Hid _:=bd;have ch:Hid _:=be;have cl:Hid _:=ba;have co:Hid _:=ab;obtain⟨N,bk⟩:=AQ D.length;rw[bk.out]at cf b7 ak⊢;clear bi bb bd be ba hd ab;gi_wp2
 gi_loopw [5,6,9] (fun _ _ i wr=>∃j:Nat,j≤N∧i=iN j∧ad ((List.range j).filterMap G).length wr∧Below w.heap.size w wr) (fun _ _ i _=>N-(intOf i).toNat)
 case atStart=>exact⟨0,nN _,rfl,b9,bg⟩
 case round=>
  obtain⟨j,dj,rfl,bl,O⟩:=hrel;by_cases bn:j<N;rotate_left
  ·have cp:decide ((j:Int)<(N:Int))=false:=nB (by omega)
   gi_wp2
   go_end0
   exact⟨⟨_,rfl⟩,.inl (by rw[show N=j by omega];exact bl)⟩
  ·have cp:decide ((j:Int)<(N:Int))=true:=nF (by omega)
   obtain⟨d,hd⟩:∃d,D[j]? =some d:=⟨_,nt (by rw[bk.out];exact bn)⟩;obtain⟨b,V,rfl,cr⟩:∃b V,a=some (aD b V)∧∀i d,D[i]? =some d→Ce w b (V+i*2) (pO d.b d.p)∧Ce w b (V+i*2+1) (iN d.ly):=by
    rcases cg.out with e|e
    ·subst e;simp at hd
    ·exact e
   obtain⟨bo,bp⟩:=cr j d hd;have bo:=Aj O _ _ bo;have bp:=Aj O _ _ bp;have Y:Below wr.heap.size wr (wr.alloc (.cells #[pO d.b d.p,iN d.ly] 179)):=bN;obtain⟨c0,c1⟩:=GF wr (pO d.b d.p) (iN d.ly) 179;have bs:=(ao.out j d hd).below O;have ap:=O.trans (Y.mono O.size);have bu:=J _ _ _ bl Y;have ar:Hid (CallsIn Fence.wide 0 prog 118 #[.agg #[pO d.b d.p,iN d.ly]] (wr.alloc (.cells #[pO d.b d.p,iN d.ly] 179)) _):=rX.2 (SI (bs.below Y));have ay:Hid (∀W2:World,Below w.heap.size w W2→CallsIn Fence.wide 0 prog 174 #[if d.x.kind=2 then .slice d.h.ak d.x.kids.length d.h.ck else nL,.func (.func 177) #[] #[pO F 0]] W2 fun e cu=>e=.returned (iN (CF (fun n=>decide (n=nm)) d.x.dirKs 0))∧Below W2.heap.size W2 cu):=fun W2 bv=>rX.2 (bI (ao.out j d hd |>.below bv) nm F (cl.out d (nE hd)) ((bv.cell (p:=(aD F 0)) cd).trans co.out));obtain⟨bx,cx⟩:∃bx,Hid ((if d.x.kind=2 then .slice d.h.ak d.x.kids.length d.h.ck else .slice none 0 0:Value)=bx):=⟨_,rfl⟩
   rw[cx.out]at ar ay;gi_wp2_with fail
   refine⟨trivial,rfl,CallsIn.mono ar.out ?_⟩;rintro e c3 ⟨rfl,Q⟩;have Z:=ap.trans (Q.mono ap.size);have bA:=J _ _ _ bu Q;have bB:=Aj Q _ _ c0;have bC:=Aj Q _ _ c1;clear ar c0 c1 ap Q bu Y;have bF:Hid _:=ay.out c3 Z;gi_wp2_with fail
   refine⟨trivial,rfl,CallsIn.mono bF.out ?_⟩;rintro e H ⟨rfl,R⟩;have az:=Z.trans (R.mono Z.size);have bG:=J _ _ _ bA R;have c4:=Aj R _ _ bB;have c5:=Aj R _ _ bC;have a1:=(ao.out j d hd).below az;clear ay bF bB bC Z R bA bs;rcases ch.out j d hd with⟨aa,_,a6⟩|⟨dk,dm,dn,y,dp,aa,a6,bH,_,bY,c6,c8,c9⟩
   ·rw[a6]
    have da:prog.follows .mixedOrders=true:=by kernel_rfl
    gi_wp2_with fail
    refine wpIn_region_quiet_lit rfl (by kernel_rfl) (by kernel_rfl) ?_;repeat(gi_big_quiet_step (fail))
    refine BigFrame.wpQuietIn_skip (fun _ _ _ _=>trivial) rfl ?_;simp only[go_sem,List.setIfInBounds_toArray,List.set_cons_succ,List.set_cons_zero];repeat(gi_big_quiet_step (fail))
    refine wpQuietIn_nil ?_;rintro _ ⟨nq,rfl⟩;gi_wp2
    go_roundw
    case rel=>exact⟨j+1,by omega,by go_num,by rw[RK,aa];exact J _ _ _ bG (Ip (nv _ _) nq),Ip az nq⟩
    case measure=>(simp[intOf];try omega)
   ·have da:prog.follows .mixedOrders=true:=by kernel_rfl
    have b0:=cR G N j bn aa;obtain⟨fn,tmps,assign,body,b1,b2⟩:=ak.out _ _ H.drew b0 (J _ _ _ bG (nv _ _).drew);have db:Hid (RoundIn Fence.wide 0 prog l fn tmps assign body H.drew fun e B=>∃T,e=.returned (.bool T)∧((T=true∧ad (((List.range j).filterMap G).length+1) B∧Below w.heap.size H.drew B)∨(T=false∧bf B))):=RoundIn.mono b2 fun e B h=>by
     rcases h with⟨rfl,a7,dd⟩|⟨rfl,a7⟩
     ·exact⟨true,rfl,.inl ⟨rfl,a7,dd⟩⟩
     ·exact⟨false,rfl,.inr ⟨rfl,a7⟩⟩
    rw[Sp.v]at b1;dsimp only at b1;obtain⟨dr,_,b3⟩:Ce H.drew d.b d.p (iN d.x.kind)∧True∧Ce H.drew d.b (d.p+7) (.slice d.h.ak d.x.kids.length d.h.ck):=by
     obtain⟨b,p,ly,⟨k,m,u,g,o,nh,ds,ks⟩,h⟩:=d;exact⟨a1.1.split.1,trivial,a1.1.split.2.2⟩
    rw[bH]at b3;have c7:=c4;have du:=c5;rw[bY];obtain⟨dw,de⟩:=AQ d.x.kids.length;rw[de.out]at b3 c8;clear b2 b0 a6 bH bY c6 c9 a1 ak;gi_wp2_with fail
    gi_region_with_o (refine⟨rfl,RoundIn.mono db.out ?_⟩;rintro e a8 ⟨T,rfl,b4⟩)
    all_goals
     cases T with
     |true=>
      have b5:ad (((List.range j).filterMap G).length+1) a8∧Below w.heap.size H.drew a8:=by
       rcases b4 with⟨_,h⟩|⟨h,_⟩
       ·exact h
       ·cases h
      gi_wp2
      go_roundw
      case rel=>exact⟨j+1,by omega,by go_num,by rw[RK,aa];exact b5.1,az.trans (Below.trans (nv _ _).drew b5.2)⟩
      case measure=>(simp[intOf];try omega)
     |false=>
      have dg:bf a8:=by
       rcases b4 with⟨h,_⟩|⟨_,h⟩
       ·cases h
       ·exact h
      gi_wp2
      refine nG (results_none rfl _ _ _) rfl ?_;exact⟨⟨_,rfl⟩,.inr dg⟩
def Nd.opq:Nd→Bool
 |.mk _ _ _ _ o _ _ _=>o
def Ey:List (Nd×Nat)→List (Nd×Nat)
 |[]=>[]
 |s::r=>if s.1.kind≠2 then []else if s.1.opq=true then [s]else s::Ey r
def Bq:List (Nd×Nat)→List (Nd×Nat)
 |[]=>[]
 |s::r=>if s.1.kind=1 then [s]else Ey (s::r)
def Ex:List Sp→List Sp
 |[]=>[]
 |s::r=>if s.x.kind≠2 then []else if s.x.opq=true then [s]else s::Ex r
def Bs:List Sp→List Sp
 |[]=>[]
 |s::r=>if s.x.kind=1 then [s]else Ex (s::r)
theorem TH:∀H:List Sp,(Ex H).map Sp.pr=Ey (H.map Sp.pr)
 |[]=>rfl
 |s::r=>by
  rw[Ex,rh,Ey];by_cases F:s.x.kind≠2
  ·rw[nD F,nD (show s.pr.1.kind≠2 from F)];rfl
  ·rw[nC F,nC (show¬s.pr.1.kind≠2 from F)]
   by_cases G:s.x.opq=true
   ·rw[nD G,nD (show s.pr.1.opq=true from G)];rfl
   ·rw[nC G,nC (show¬s.pr.1.opq=true from G),rh,TH r]
theorem OQ(G:List Sp):(Bs G).map Sp.pr=Bq (G.map Sp.pr):=by
 cases G with
 |nil=>rfl
 |cons s r=>
  rw[Bs,rh,Bq];by_cases F:s.x.kind=1
  ·rw[nD F,nD (show s.pr.1.kind=1 from F)];rfl
  ·rw[nC F,nC (show¬s.pr.1.kind=1 from F),TH];rfl
theorem Tn:∀(F:List Sp) s,s∈Ex F→s∈F
 |[],s,h=>by cases h
 |t::r,s,h=>by
  rw[Ex]at h;split at h
  ·cases h
  split at h
  ·rw[rj]at h;rw[h];exact nK ..
  ·rcases nY.1 h with e|e
   ·rw[e];exact nK ..
   ·exact n2 _ (Tn r s e)
theorem TG(F:List Sp)(s:Sp)(h:s∈Bs F):s∈F:=by
 cases F with
 |nil=>cases h
 |cons t r=>
  rw[Bs]at h;split at h
  ·rw[rj]at h;rw[h];exact nK ..
  ·exact Tn _ _ h
theorem S9:∀F:List Sp,(Ex F).length≤F.length
 |[]=>nn _
 |t::r=>by
  rw[Ex];split
  ·exact nN _
  split
  ·simp
  ·simp;exact S9 r
theorem dM(F:List Sp):(Bs F).length≤F.length:=by
 cases F with
 |nil=>exact nn _
 |cons t r=>
  rw[Bs];split
  ·simp
  ·exact S9 _
def Ks(L:List Sp):Prop:=∀s∈L,s.x.kind=2∧s.x.opq=false
theorem Z4{L:List Sp}(h:Ks L)(r:List Sp):Ex (L++r)=L++Ex r:=by
 induction L with
 |nil=>rfl
 |cons s L G=>
  have F:=h s (nK ..);rw[n9,Ex,nC (by rw[F.1];simp),nC (by rw[F.2];simp),G fun t H=>h t (n2 _ H)];rfl
theorem OA{L:List Sp}(h:Ks L)(F:L≠[])(r:List Sp):Bs (L++r)=L++Ex r:=by
 cases L with
 |nil=>exact absurd rfl F
 |cons s L=>
  have G:=h s (nK ..);rw[←Z4 h r,n9,Bs,nC (by rw[G.1];decide)]
theorem TY{s:Sp}(F:s.x.kind≠1)(L r:List Sp)(G:Ks L):Bs (L++s::r)=L++Ex (s::r):=by
 cases L with
 |nil=>rw[ru,Bs,nC F];rfl
 |cons t L=>exact OA G (by simp) _
def Dy:List Sp→List Value
 |[]=>[]
 |s::r=>.pointer (some ⟨s.b,s.p,none⟩)::.int .i64 s.ly::Dy r
theorem Nz:∀a b:List Sp,Dy (a++b)=Dy a++Dy b
 |[],b=>rfl
 |s::a,b=>by simp[Dy,Nz a b]
theorem Oe:∀(L:List Sp) (i:Nat) (s:Sp),L[i]? =some s→(Dy L)[i*2]? =some (pO s.b s.p)∧(Dy L)[i*2+1]? =some (iN s.ly)
 |[],i,s,h=>by simp at h
 |t::L,0,s,h=>by simp at h;subst h;exact⟨rfl,rfl⟩
 |t::L,i+1,s,h=>by
  have:=Oe L i s (by simpa using h);rw[show(i+1)*2=i*2+2 by omega];simpa [Dy]using this
def JI(base:Nat)(a:Option Addr)(L:List Sp):Prop:=L=[]∨∃g F,a=some ⟨g,F,none⟩∧base≤g
theorem Jr{w:World}{base:Nat}{t:TypeId}{v:Value}{L:List Sp}(h:w.ownsRow base t 2 v L.length (Dy L)):∃a cap,v=.slice a L.length cap∧L.length≤cap∧cap≤9223372036854775807∧DH w.cell? a L∧JI base a L:=by
 rcases h.2 with⟨rfl,F⟩|⟨g,cap,Y,rfl,hb,G,I,J,Z,H⟩
 ·rw[F]
  exact⟨none,0,rfl,nn _,by omega,.inl (rq.1 F),.inl (rq.1 F)⟩
 ·refine⟨some (aD g 0),cap,rfl,I,by simpa [maxLen]using J,.inr ⟨g,0,rfl,fun i d O=>?_⟩,.inr ⟨g,0,rfl,hb⟩⟩
  obtain⟨Q,R⟩:=Oe L i d O;have T:=F7 G H Q;have V:=F7 G H R;rw[nU];exact⟨T,V⟩
theorem P0{A B:World}(h:Below A.heap.size A B):A.grownBy B none:=⟨h.os,h.tape,h.output,h.size,fun k F _=>h.block k F⟩
theorem Et{A B:World}{b:Nat}{t:TypeId}{v:Value}(h:Boxed A b t v)(hb:Below A.heap.size A B):Boxed B b t v:=h.kept (P0 hb) (by simp)
theorem Fp{A B:World}{base:Nat}{t:TypeId}{n k:Nat}{v:Value}{xs:List Value}(h:A.ownsRow base t n v k xs)(hb:Below A.heap.size A B):B.ownsRow base t n v k xs:=by
 refine h.kept (P0 hb) ?_;cases hv:v.ownBlock with
 |none=>exact .inl rfl
 |some b=>exact .inr (by simp)
theorem F8{A:World}{b l:Nat}{t:TypeId}{v:Value}(h:Boxed A b t v){r:Loop}(F:A.heap[l]? =some (.loop r))(o:Obj):Boxed (A.putObj l o) b t v:=h.kept (grownBy_putObj' A l o) (fun e=>by
 cases e;rw[show A.heap[b]? =_ from h]at F;cases F)
theorem Fq{A:World}{n₀ l:Nat}(F:n₀≤A.heap.size)(G:n₀≤l)(o:Obj):Below n₀ A (A.putObj l o):=(nv n₀ A).grown (grownBy_putObj' A l o) F (fun k e=>by cases e;exact G)
structure E4 (w W:World) (L:List Sp) (st:Loop):Prop where
 low:Below w.heap.size w W
 rb:Boxed W w.heap.size 131 (.slice none 0 0)
 sb:∃v,Boxed W (w.heap.size+1) 131 v∧W.ownsRow w.heap.size 179 2 v L.length (Dy L)
 dk:W.heap[w.heap.size+1+1]? =some (.deferred (some []))
 lk:W.heap[w.heap.size+1+1+1]? =some (.loop st)
theorem E4.keep{w A B:World}{L:List Sp}{st:Loop}(h:E4 w A L st)(hb:Below A.heap.size A B):E4 w B L st:=by
 obtain⟨v,F,G⟩:=h.sb;refine⟨h.low.trans (hb.mono h.low.size),Et h.rb hb,⟨v,Et F hb,Fp G hb⟩,?_,?_⟩
 ·exact(hb.block _ (nJ.1 h.dk).1).trans h.dk
 ·exact(hb.block _ (nJ.1 h.lk).1).trans h.lk
theorem E4.put{w A:World}{L:List Sp}{st:Loop}(h:E4 w A L st)(F:Loop):E4 w (A.putObj (w.heap.size+1+1+1) (.loop F)) L F:=by
 obtain⟨v,G,H⟩:=h.sb;refine⟨h.low.trans (Fq h.low.size (by omega) _),F8 h.rb h.lk _,⟨v,F8 G h.lk _,ownsRow_putObj H _ h.lk rfl⟩,?_,?_⟩
 ·exact(World.putObj_heap_other (by omega)).trans h.dk
 ·exact World.putObj_heap_same (nJ.1 h.lk).1
theorem dZ{w:World}{base:Nat}{t:TypeId}{n k:Nat}{v:Value}{xs:List Value}(h:w.ownsRow base t n v k xs){g:Nat}(F:v.ownBlock=some g):g<w.heap.size:=by
 rcases h.2 with⟨rfl,_⟩|⟨H,cap,I,rfl,_,G,_⟩
 ·cases F
 ·cases F
  exact(nJ.1 G).1
theorem E4.appended{w A F:World}{L:List Sp}{st:Loop}(h:E4 w A L st){v G:Value}{O:Obj}{s:Sp}(Q:Boxed A (w.heap.size+1) 131 v)(I:A.ownsRow w.heap.size 179 2 v L.length (Dy L))
 (R:F.ownsRow w.heap.size 179 2 G (L.length+1) (Dy L++[pO s.b s.p,iN s.ly])) (J:(A.alloc O).grownBy F v.ownBlock):
 Boxed F (w.heap.size+1) 131 v∧E4 w (F.setCell (aD (w.heap.size+1) 0) G) (L++[s]) st∧Below w.heap.size A (F.setCell (aD (w.heap.size+1) 0) G)∧∀k,k<A.heap.size→k≠w.heap.size+1→v.ownBlock≠some k→(F.setCell (aD (w.heap.size+1) 0) G).heap[k]? =A.heap[k]?:=by
 obtain⟨T,a2,a3,a4,a5⟩:=Q.appended (by decide) I h.low.size (by omega) R J;have H:∀k,k<A.heap.size→k≠w.heap.size+1→v.ownBlock≠some k→(F.setCell (aD (w.heap.size+1) 0) G).heap[k]? =A.heap[k]?:=fun k H V Y=>by
  rw[re _ _ _ k V,J.block k (by rw[nw];omega) (fun e=>Y e.symm),rR _ _ _ H]
 refine⟨T,⟨h.low.trans a5,?_,⟨G,a2,?_⟩,a4.same _ _ h.dk rfl,a4.same _ _ h.lk rfl⟩,a5,H⟩
 ·exact(H _ h.rb.lt (by omega) (h.rb.not_row (by decide) I).symm).trans h.rb
 ·rw[Nz,nM]
  exact a3
theorem Tryz.infoSp:(prog.info? 179).map (fun i=>(i.zero,i.size,i.bytes))=some (some (.agg #[.pointer none,.int .i64 0]),2,16):=by kernel_rfl
theorem M0(w:World)(x y:Value)(t:TypeId):∀j u,[x,y][j]? =some u→(w.alloc (.cells #[x,y] t)).cell? (((aD w.heap.size 0):Addr).add j)=some u:=by
 intro j u F;match j,F with
 |0,F=>simp at F;subst F;exact aC
 |1,F=>simp at F;subst F;exact aC
attribute [local go_sem] Oper.semAt_some
structure ML (w W:World) (L:List Sp) (st:Loop):Prop where
 low:Below w.heap.size w W
 rb:∃a cap,Boxed W w.heap.size 131 (.slice a L.length cap)∧L.length≤cap∧cap≤9223372036854775807∧DH W.cell? a L∧JI w.heap.size a L
 dk:W.heap[w.heap.size+1+1]? =some (.deferred (some []))
 lk:W.heap[w.heap.size+1+1+1]? =some (.loop st)
theorem ML.make{w A:World}{L:List Sp}{st:Loop}(h:E4 w A L st)(s:Sp)(H:Loop):
 ((A.alloc (.cells #[pO s.b s.p,iN s.ly] 179)).setCell (aD w.heap.size 0) (sL A.heap.size 0 1 1)).heap[w.heap.size+1+1+1]? =some (.loop st)∧
 ML w (((A.alloc (.cells #[pO s.b s.p,iN s.ly] 179)).setCell (aD w.heap.size 0) (sL A.heap.size 0 1 1)).putObj (w.heap.size+1+1+1) (.loop H)) [s] H:=by
 have Q:Below A.heap.size A (A.alloc (.cells #[pO s.b s.p,iN s.ly] 179)):=bN;have F:=h.keep Q;have T:=(nJ.1 h.lk).1;have I:((A.alloc (.cells #[pO s.b s.p,iN s.ly] 179)).setCell (aD w.heap.size 0) (sL A.heap.size 0 1 1)).heap[w.heap.size+1+1+1]? =some (.loop st):=by
  rw[re _ _ _ _ (by show w.heap.size+1+1+1≠w.heap.size;omega)];exact F.lk
 have R:((A.alloc (.cells #[pO s.b s.p,iN s.ly] 179)).setCell (aD w.heap.size 0) (sL A.heap.size 0 1 1)).heap[w.heap.size+1+1]? =some (.deferred (some [])):=by
  rw[re _ _ _ _ (by show w.heap.size+1+1≠w.heap.size;omega)];exact F.dk
 have J:∀j,(((A.alloc (.cells #[pO s.b s.p,iN s.ly] 179)).setCell (aD w.heap.size 0) (sL A.heap.size 0 1 1)).putObj (w.heap.size+1+1+1) (.loop H)).cell? (aD A.heap.size j)=(A.alloc (.cells #[pO s.b s.p,iN s.ly] 179)).cell? (aD A.heap.size j):=fun j=>nS (by
  rw[World.putObj_heap_other (by show A.heap.size≠_;omega),re _ _ _ _ (by show A.heap.size≠w.heap.size;omega)])
 obtain⟨c0,c1⟩:=GF A (pO s.b s.p) (iN s.ly) 179;refine⟨I,⟨?_,⟨some (aD A.heap.size 0),1,F8 (F.rb.set _) I _,nn _,by omega,.inr ⟨A.heap.size,0,rfl,fun i d G=>?_⟩,.inr ⟨A.heap.size,0,rfl,h.low.size⟩⟩,(World.putObj_heap_other (by omega)).trans R,World.putObj_heap_same (nJ.1 I).1⟩⟩
 ·have O:Below w.heap.size w ((A.alloc (.cells #[pO s.b s.p,iN s.ly] 179)).setCell (aD w.heap.size 0) (sL A.heap.size 0 1 1)):=F.low.setCell (p:=(aD w.heap.size 0)) (nn _) _
  exact O.trans (Fq O.size (by omega) _)
 ·match i,G with
  |0,G=>simp at G;subst G;exact⟨(J 0).trans c0,(J 1).trans c1⟩
theorem OJ{A:World}{l:Nat}{o:Obj}(F:A.heap[l]? =some o)(G:o.isCells=false)(H:Obj):AR A.cell? (A.putObj l H).cell?:=fun _ _ h=>cell_kept h (grownBy_putObj' _ _ _) (fun r e=>by cases e;exact⟨_,F,G⟩)
theorem DH.on{c F:AH}{a:Option Addr}{D:List Sp}(h:DH c a D)(hb:AR c F):DH F a D:=by
 rcases h with e|⟨b,H,e,h⟩
 ·exact .inl e
 ·exact .inr ⟨b,H,e,fun i d G=>⟨hb _ _ (h i d G).1,hb _ _ (h i d G).2⟩⟩
theorem Nv{w F:World}{L:List Sp}{G:Act}(T:G.tmps[2]? =some (.pointer (some ⟨w.heap.size,0,none⟩)))(hd:G.defers=[{target:=.collected (w.heap.size+1+1),args:=#[]}])(H:F.heap[w.heap.size+1+1]? =some (.deferred (some []))){a:Option Addr}{cap:Nat}(hb:F.cell? ⟨w.heap.size,0,none⟩=some (.slice a L.length cap))(V:L.length≤cap)(Y:cap≤9223372036854775807)(Z:DH F.cell? a L)(aa:JI w.heap.size a L)(I:Below w.heap.size w F):
 bodyPostM Fence.wide 1 prog Tryz.f119 (fun e w'=>∃a cap,e=.returned (.slice a L.length cap)∧L.length≤cap∧cap≤9223372036854775807∧DH w'.cell? a L∧JI w.heap.size a L∧Below w.heap.size w w') .ret G F:=by
 show LeavesInM Fence.wide 1 prog Tryz.f119 G.tmps _ G.defers .returning F;rw[hd];refine⟨by simp,.inl ⟨_,_,rfl,run_takeDeferred H,?_⟩⟩;have J:=OJ H rfl (.deferred none);have O:=J _ _ hb;have Q:=Z.on J;have R:=I.trans (Fq I.size (by omega) (.deferred none) (l:=w.heap.size+1+1));generalize F.putObj (w.heap.size+1+1) (.deferred none)=ab at O Q R⊢;exact⟨.slice a L.length cap,by simp[results,results119,go_sem,T,O],a,cap,rfl,V,Y,Q,aa,R⟩
theorem Ns{w:World}{gf:Nat}{lb:Array Value}{F:List Sp}(bF:MR gf lb w.heap.size w F)(cf:∀args w,(callFunc gf args).run prog w=.ok (.enter gf args) w)(bG:∀s∈F,CB w.cell? s)(dx:F.length≤1000):
 Calls prog 119 #[.func (.func gf) #[] lb] w fun e w'=>∃a cap,e=.returned (.slice a (Bs F).length cap)∧(Bs F).length≤cap∧cap≤9223372036854775807∧DH w'.cell? a (Bs F)∧JI w.heap.size a (Bs F)∧Below w.heap.size w w':=by
 obtain⟨cg,ch,cl,co,cp⟩:=info_parts Tryz.infoSp;refine(rX (n:=1)).1 ?_;refine callsIn_of_wp_marks func119 rfl trivial ?_ rfl;simp only[ntmps119,List.size_toArray,n3,nR,Nat.reduceAdd,Nat.reduceSub,r9,r8,List.push_toArray,List.append_toArray,ru,n9];gi_wp2_with fail
 have bb:Below w.heap.size w ((w.alloc (.cells #[nL] 131)).alloc (.cells #[nL] 131)):=bN.alloc (by rw[nw];omega) _;have ak:((w.alloc (.cells #[nL] 131)).alloc (.cells #[nL] 131)).heap.size=w.heap.size+1+1:=by rw[nw,nw]
 have bd:Boxed ((w.alloc (.cells #[nL] 131)).alloc (.cells #[nL] 131)) w.heap.size 131 nL:=(Boxed.new w _ _).alloc _;have be:Boxed ((w.alloc (.cells #[nL] 131)).alloc (.cells #[nL] 131)) (w.heap.size+1) 131 nL:=by
  have:=Boxed.new (w.alloc (.cells #[nL] 131)) 131 nL;rwa [nw]at this
 generalize(w.alloc (.cells #[nL] 131)).alloc (.cells #[nL] 131)=dy at bb ak bd be⊢;refine Oa (gf:=gf) (lb:=lb) rfl cf ?_;intro fn rec cr bH R bY bf bg;rw[ak]at R bY bf bg⊢;have ao:E4 w bH [] (rec .ready none):=⟨bb.trans (R.mono (by omega)),Et bd (by rw[ak];exact R),⟨_,Et be (by rw[ak];exact R),rB _ _ _ _⟩,bg,bf⟩;clear bb R bY bf bg bd be ak;refine(bF (w.heap.size+1+1+1) (fun i W=>i≤F.length∧Ks (F.take i)∧E4 w W (F.take i) (rec .ready none)) (fun W=>E4 w W (Bs F) (rec .done (some (.exit 0)))∨ML w W (Bs F) (rec .done (some .ret))) bH ao.low (fun i A B h hb=>⟨h.1,h.2.1,h.2.2.keep hb⟩) ?rounds ⟨nN _,fun s cu=>(by cases cu),ao⟩).mono ?after
 case rounds=>
  rintro i s A ap ⟨dz,T,Q⟩;have b0:=nE ap;have cx:=(ny.1 ap).1;have ar:Hid (F=F.take i++s::F.drop (i+1)):=by
   show F=_;have e:=nO cx;rw[(ny.1 ap).2]at e;rw[←e,ry]
  have a1:Hid (F.take (i+1)=F.take i++[s]):=by show _=_;rw[rv,ap];rfl
  have bi:(F.take i).length=i:=by rw[rF];omega
  have bk:=bG s b0;obtain⟨v,V,I⟩:=Q.sb;have bl:∀g,v.ownBlock=some g→g<A.heap.size:=fun g c3=>dZ I c3;obtain⟨ad,vc,rfl,_⟩:=Jr I
  rw[bi]at bl V I;have bn:Hid _:=bi;clear bi;rw[show s.v=.agg #[pO s.b s.p,iN s.ly]from rfl];refine NJ cr Q.lk rfl ?_;gi_wp2
  refine⟨(Q.keep bN).lk,?_⟩;have Y:Below A.heap.size A (A.alloc (.cells #[pO s.b s.p,iN s.ly] 179)):=bN;have G:=(Q.keep Y).put (rec .busy none);have d0:=(nJ.1 Q.lk).1;have b1:Below w.heap.size A ((A.alloc (.cells #[pO s.b s.p,iN s.ly] 179)).putObj (w.heap.size+1+1+1) (.loop (rec .busy none))):=(Y.mono (by omega)).trans (Fq (by rw[nw];omega) (by omega) _);have a6:=F8 (Et V Y) (Q.keep Y).lk (.loop (rec .busy none));have a7:=ownsRow_putObj (Fp I Y) (.loop (rec .busy none)) (Q.keep Y).lk rfl;obtain⟨c0,c1⟩:=GF A (pO s.b s.p) (iN s.ly) 179;have b2:∀j,((A.alloc (.cells #[pO s.b s.p,iN s.ly] 179)).putObj (w.heap.size+1+1+1) (.loop (rec .busy none))).cell? (aD A.heap.size j)=(A.alloc (.cells #[pO s.b s.p,iN s.ly] 179)).cell? (aD A.heap.size j):=fun j=>nS (World.putObj_heap_other (by show A.heap.size≠_;omega));rw[←b2]at c0 c1
  have b3:A.heap.size<((A.alloc (.cells #[pO s.b s.p,iN s.ly] 179)).putObj (w.heap.size+1+1+1) (.loop (rec .busy none))).heap.size:=by rw[World.putObj_size,nw];omega
  generalize(A.alloc (.cells #[pO s.b s.p,iN s.ly] 179)).putObj (w.heap.size+1+1+1) (.loop (rec .busy none))=a8 at G b1 c0 c1 a6 a7 b3⊢;clear b2 Y V I;obtain⟨d1,c4,_⟩:Ce a8 s.b s.p (iN s.x.kind)∧Ce a8 s.b (s.p+4) (.bool s.x.opq)∧True:=by
   have Z:=bk.1.below G.low;obtain⟨b,p,ly,⟨k,m,u,g,o,nh,d,ks⟩,h⟩:=s;exact⟨Z.split.1,Z.split.2.1,trivial⟩
  have c5:s.b<w.heap.size:=by
   have Z:=bk.1;obtain⟨b,p,ly,⟨k,m,u,g,o,nh,d,ks⟩,h⟩:=s;exact bL Z.split.1
  have b4:=a6.cell;have bo:=G.rb.cell;have bp:=G.rb.frozen;generalize aa:s.x.kind=k at*;generalize b5:s.x.opq=o at*;by_cases Z:k=1
  ·subst Z
   by_cases ao:i=0
   ·subst ao
    have d2:=(G.rb.alloc (.cells #[pO s.b s.p,iN s.ly] 179)).cell;have d3:=(G.rb.alloc (.cells #[pO s.b s.p,iN s.ly] 179)).frozen;have ab:Hid (Bs F=[s]):=by
     show Bs F=[s];rw[ar.out,List.take_zero,ru,Bs,nD aa]
    obtain⟨c6,c8⟩:=ML.make G s (rec .done (some .ret));clear bo bp;gi_wp2_with fail
    exact⟨c6,.inr ⟨rfl,.inr (by rw[ab.out];exact c8)⟩⟩
   ·have ab:Hid (Bs F=F.take i):=by
     show Bs F=_;conv=>lhs;rw[ar.out]
     rw[OA T (fun e=>ao (by have:=bn.out;rw[e]at this;exact this.symm)),Ex,nD (by rw[aa];decide),rQ]
    gi_wp2_with fail
    exact⟨G.lk,.inr ⟨rfl,.inl (by rw[ab.out];exact G.put _)⟩⟩
  by_cases b6:k=2;rotate_left
  ·have ab:Hid (Bs F=F.take i):=by
    show Bs F=_;conv=>lhs;rw[ar.out]
    rw[TY (by rw[aa];exact Z) _ _ T,Ex,nD (by rw[aa];exact b6),rQ]
   gi_wp2_with fail
   exact⟨G.lk,.inr ⟨rfl,.inl (by rw[ab.out];exact G.put _)⟩⟩
  subst b6;have c9:Hid (o=true→Bs F=F.take (i+1)):=fun e=>by
   rw[a1.out];conv=>lhs;rw[ar.out]
   rw[TY (by rw[aa];decide) _ _ T,Ex,nC (by rw[aa];simp),nD (by rw[b5];exact e)]
  have da:Hid (o=false→Ks (F.take (i+1))):=fun e t b7=>by
   rw[a1.out]at b7;rcases rd.1 b7 with ba|ba
   ·exact T t ba
   ·rw[rj]at ba;rw[ba];exact⟨aa,by rw[b5];exact e⟩
  have db:Hid (∀O J,J.ownsRow w.heap.size 179 2 O (i+1) (Dy (F.take i)++[pO s.b s.p,iN s.ly])→(a8.alloc (.cells #[pO s.b s.p,iN s.ly] 179)).grownBy J (Value.slice ad i vc).ownBlock→
   ∃g cap,O=sL g 0 (i+1) cap∧Boxed J (w.heap.size+1) 131 (.slice ad i vc)∧E4 w (J.setCell (aD (w.heap.size+1) 0) O) (F.take (i+1)) (rec .busy none)∧Below w.heap.size A (J.setCell (aD (w.heap.size+1) 0) O)∧Ce (J.setCell (aD (w.heap.size+1) 0) O) A.heap.size 0 (pO s.b s.p)∧Ce (J.setCell (aD (w.heap.size+1) 0) O) s.b (s.p+4) (.bool o)):=fun O J q1 q2=>by
   obtain⟨g,cap,e⟩:=ownsRow_succ q1;have b9:=bn.out;obtain⟨dd,a2,a3,a4⟩:=G.appended (s:=s) a6 (by rw[b9];exact a7) (by rw[b9];exact q1) q2;rw[←a1.out]at a2;refine⟨g,cap,e,dd,a2,b1.trans a3,?_,?_⟩
   ·exact(nS (a:=(aD A.heap.size 0)) (a4 A.heap.size b3 (by omega) (fun e=>by have:=bl A.heap.size e;omega))).trans c0
   ·exact(a3.cell (p:=(aD s.b (s.p+4))) c5).trans c4
  have de:=a7;clear ar a1 a7 a6 bl bn Q bG bF bk b0 ap;gi_wp2_with (gi_at_builtin;refine wpListIn_append_own _ rfl _ _ 131 rfl w.heap.size 179 cg (.agg #[.pointer none,iN 0]) 2 16 underlying131 ch cl co cp rfl (by decide) _ _ _ rfl (de.alloc _) (aD a8.heap.size 0) 1 1 [pO s.b s.p,iN s.ly] rfl rfl (M0 _ _ _ _) (by simp[Value.oneCell']) (by simp[maxLen];omega) (by omega) (by have:=G.low.size;simp;omega) ?_;intro O J dg dj _;obtain⟨d4,d5,rfl,cb,ay,R,d6,d7⟩:=db.out O J dg dj;have d8:=cb.cell;have d9:=cb.frozen)
  ·have dk:o=true:=by assumption
   exact⟨ay.lk,.inr ⟨rfl,.inl (by rw[c9.out dk];exact ay.put _)⟩⟩
  ·have dm:o=false:=by first|assumption|(simpa using‹¬o=true›)
   exact⟨ay.lk,.inl ⟨rfl,⟨by omega,da.out dm,ay.put _⟩,R.trans (Fq (nP ay.low.size (nn _)) (by omega) _)⟩⟩
 case after=>
  rintro e W2 ⟨⟨v,rfl⟩,h⟩;refine⟨⟨_,rfl⟩,?_⟩;rcases h with⟨_,T,G⟩|G|G
  ·rw[List.take_length]at T G
   have ab:Hid (Bs F=F):=by
    show Bs F=F;cases F with
    |nil=>rfl
    |cons s r=>have:=OA T (by simp) [];rwa [rQ,Ex,rQ]at this
   left
   have bs:E4 w W2 (Bs F) (rec .ready none):=by rw[ab.out];exact G
   refine⟨G.lk,?_⟩;have H:=bs.put (rec .exhausted none);generalize W2.putObj (w.heap.size+1+1+1) (.loop (rec .exhausted none))=bu at H⊢;obtain⟨v,V,I⟩:=H.sb;obtain⟨ad,vc,rfl,bv,bx,dn,bA⟩:=Jr I;have b4:=V.cell;have bo:=H.rb.cell;have bp:=H.rb.frozen;gi_wp2
   have bB:=I.kept (grownBy_setCell' bu w.heap.size (.slice ad (Bs F).length vc)) (.inr (H.rb.not_row (by decide) I).symm);obtain⟨dp,dr,az,_,_,bC,_⟩:=Jr bB;simp only[rp,true_and]at az;obtain⟨rfl,rfl⟩:=az;exact Nv rfl rfl ((re _ _ _ _ (by show w.heap.size+1+1≠w.heap.size;omega)).trans H.dk) (H.rb.set _).cell bv bx bC bA (H.low.setCell (p:=(aD w.heap.size 0)) (nn _) _)
  ·right
   refine⟨.exit 0,G.lk,?_⟩;have bs:=G;have H:=bs.put (rec .exhausted (some (.exit 0)));generalize W2.putObj (w.heap.size+1+1+1) (.loop (rec .exhausted (some (.exit 0))))=bu at H⊢;obtain⟨v,V,I⟩:=H.sb;obtain⟨ad,vc,rfl,bv,bx,dn,bA⟩:=Jr I;have b4:=V.cell;have bo:=H.rb.cell;have bp:=H.rb.frozen;gi_wp2
   have bB:=I.kept (grownBy_setCell' bu w.heap.size (.slice ad (Bs F).length vc)) (.inr (H.rb.not_row (by decide) I).symm);obtain⟨dp,dr,az,_,_,bC,_⟩:=Jr bB;simp only[rp,true_and]at az;obtain⟨rfl,rfl⟩:=az;exact Nv rfl rfl ((re _ _ _ _ (by show w.heap.size+1+1≠w.heap.size;omega)).trans H.dk) (H.rb.set _).cell bv bx bC bA (H.low.setCell (p:=(aD w.heap.size 0)) (nn _) _)
  ·right
   refine⟨.ret,G.lk,?_⟩;obtain⟨ea,eb,q1,q2,ds,q4,q5⟩:=G.rb;have cd:=OJ G.lk rfl (.loop (rec .exhausted (some .ret)));have du:=G.low.trans (Fq G.low.size (by omega) (.loop (rec .exhausted (some .ret))) (l:=w.heap.size+1+1+1));have dw:(W2.putObj (w.heap.size+1+1+1) (.loop (rec .exhausted (some .ret)))).heap[w.heap.size+1+1]? =some (.deferred (some [])):=(World.putObj_heap_other (by omega)).trans G.dk;gi_wp2
   exact Nv rfl rfl dw (cd _ _ q1.cell) q2 ds (q4.on cd) q5 du
theorem CB.on{c F:AH}{s:Sp}(h:CB c s)(hb:AR c F):CB F s:=⟨h.1.on hb,h.2.on hb⟩
theorem KO.on{c F:AH}{nm:BA}{d:Sp}{o:Option Sp}(h:KO c nm d o)(hb:AR c F):KO F nm d o:=by
 rcases h with h|⟨b,G,j,y,H,I,J,O,Q,R,T,V,Y⟩
 ·exact .inl h
 ·exact .inr ⟨b,G,j,y,H,I,J,O,Q,R,T,V,Y.on hb⟩
def ES(c:AH)(v:Value)(l:List (Nd×Nat)):Prop:=∃(a:Option Addr) (cap:Nat) (D:List Sp),v=.slice a D.length cap∧D.length≤cap∧cap≤9223372036854775807∧DH c a D∧(∀s∈D,CB c s)∧D.map Sp.pr=l
theorem ES.on{c F:AH}{v:Value}{l:List (Nd×Nat)}(h:ES c v l)(hb:AR c F):ES F v l:=by
 obtain⟨a,cap,D,G,H,I,J,O,Q⟩:=h;exact⟨a,cap,D,G,H,I,J.on hb,fun s R=>(O s R).on hb,Q⟩
def Cn(c:AH)(a:Option Addr)(xs:List Nd):Prop:=xs=[]∨∃b F,a=some ⟨b,F,none⟩∧∃f:Nat→Hd,∀i x,xs[i]? =some x→Bi c b (F+i*8) x (f i)∧Ah c x (f i)
theorem Cn.on{c F:AH}{a:Option Addr}{xs:List Nd}(h:Cn c a xs)(hb:AR c F):Cn F a xs:=by
 rcases h with h|⟨b,I,J,f,G⟩
 ·exact .inl h
 ·exact .inr ⟨b,I,J,f,fun i x H=>⟨(G i x H).1.on hb,(G i x H).2.on hb⟩⟩
def BJ(xs:List Nd):List (Nd×Nat):=xs.zipIdx
def DL(l:List (Nd×Nat)):Prop:=l.length≤1000∧∀q∈l,cnt q.1≤1000
theorem bw(x:Nd):x.kids.length<cnt x:=by
 obtain⟨k,m,u,g,o,nh,d,ks⟩:=x;have:=Gc ks;rw[cnt];show ks.length<_;omega
theorem DL.kid{l:List (Nd×Nat)}(h:DL l)(nm:BA):DL (Bz nm l):=by
 refine⟨nP (List.length_filterMap_le _ _) h.1,fun q H=>?_⟩;obtain⟨p,I,e⟩:=rC.1 H;obtain⟨y,F,rfl⟩:=n0.1 e;have O:=h.2 p I;unfold Dr at F;split at F
 ·cases F
 ·obtain⟨G,J,rfl⟩:=n0.1 F
  have Q:cnt G.2≤cntL p.1.kids:=by
   obtain⟨n,z⟩:=G;exact Jv J
  have R:cntL p.1.kids<cnt p.1:=by
   obtain⟨⟨k,m,u,g,o,nh,d,ks⟩,ly⟩:=p;show cntL ks<cnt (.mk k m u g o nh d ks);rw[cnt];omega
  show cnt G.2≤1000;omega
theorem S1:∀(l:List (Nd×Nat)) q,q∈Ey l→q∈l
 |[],q,h=>by cases h
 |t::r,q,h=>by
  rw[Ey]at h;split at h
  ·cases h
  split at h
  ·rw[rj]at h;rw[h];exact nK ..
  ·rcases nY.1 h with e|e
   ·rw[e];exact nK ..
   ·exact n2 _ (S1 r q e)
theorem H5(l:List (Nd×Nat))(q:Nd×Nat)(h:q∈Bq l):q∈l:=by
 cases l with
 |nil=>cases h
 |cons t r=>
  rw[Bq]at h;split at h
  ·rw[rj]at h;rw[h];exact nK ..
  ·exact S1 _ _ h
theorem Sg:∀l:List (Nd×Nat),(Ey l).length≤l.length
 |[]=>nn _
 |t::r=>by
  rw[Ey];split
  ·exact nN _
  split
  ·simp
  ·simp;exact Sg r
theorem dX(l:List (Nd×Nat)):(Bq l).length≤l.length:=by
 cases l with
 |nil=>exact nn _
 |cons t r=>
  rw[Bq];split
  ·simp
  ·exact Sg _
theorem DL.sh{l:List (Nd×Nat)}(h:DL l):DL (Bq l):=⟨nP (dX l) h.1,fun q F=>h.2 q (H5 l q F)⟩
theorem Vn{A B:World}{S:Nat→Bool}{n₀:Nat}{a:Option Addr}{cap:Nat}{F:List Sp}(J:∀k,S k=true→k<n₀)(O:(Bs F).length≤cap)(Q:cap≤9223372036854775807)(H:DH B.cell? a (Bs F))(R:JI n₀ a (Bs F))(T:∀s∈F,CB (Ag A.cell? S) s)(V:AR (Ag A.cell? S) (Ag B.cell? S)):ES (Ag B.cell? S) (.slice a (Bs F).length cap) (Bq (F.map Sp.pr)):=by
 refine⟨a,cap,Bs F,rfl,O,Q,?_,fun s Y=>(T s (TG F s Y)).on V,OQ F⟩;rcases H with e|⟨b,I,e,H⟩
 ·exact .inl e
 ·rcases R with G|⟨g,aa,G,ab⟩
  ·exact .inl G
  ·rw[e]at G
   simp only[nV,rc]at G;refine .inr ⟨b,I,e,fun i d Z=>?_⟩;have hb:S b=false:=by
    cases hh:S b with
    |false=>rfl
    |true=>have:=J b hh;omega
   rw[Ck (show S ((aD b (I+i*2)):Addr).block=false from hb),Ck (show S ((aD b (I+i*2+1)):Addr).block=false from hb)];exact H i d Z
theorem JZ(w:World)(a:Option Addr)(n cap:Nat)(nm:BA):
 Calls prog 146 #[.slice a n cap,.string nm] w fun e w'=>e=.returned (.func (.func 176) #[] #[pO w.heap.size 0,pO (w.heap.size+1) 0])∧w'=(w.alloc (.cells #[.slice a n cap] 131)).alloc (.cells #[.string nm] 9):=by
 go_enter func146,ntmps146;go_wp2;go_ret;exact⟨rfl,rfl⟩
theorem XU(w:World)(a:Option Addr)(n cap:Nat):
 Calls prog 163 #[.slice a n cap] w fun e w'=>e=.returned (.func (.func 192) #[] #[pO w.heap.size 0])∧w'=w.alloc (.cells #[.slice a n cap] 30):=by
 go_enter func163,ntmps163;go_wp2;go_ret;exact⟨rfl,rfl⟩
theorem J1{A w:World}{S:Nat→Bool}(ao:∀k,S k=true→k<A.heap.size){a:Option Addr}{cap:Nat}{D:List Sp}(nm:BA)(ap:DH (Ag A.cell? S) a D)(ar:∀s∈D,CB (Ag A.cell? S) s)(T:DL (D.map Sp.pr))(O:w=(A.alloc (.cells #[.slice a D.length cap] 131)).alloc (.cells #[.string nm] 9)):
 Calls prog 119 #[.func (.func 176) #[] #[pO A.heap.size 0,pO (A.heap.size+1) 0]] w fun e B=>∃v,e=.returned v∧ES (Ag B.cell? S) v (Bq (Bz nm (D.map Sp.pr)))∧Below A.heap.size A B:=by
 have G:Below A.heap.size A w:=by rw[O];exact bN.alloc (by rw[nw];omega) _
 have H:=Aj G;have I:=Ci A.cell? S;have V:∀(i:Nat) d,D[i]? =some d→CB (Ag A.cell? S) d:=fun i d F=>ar d (nE F);obtain⟨J,Q⟩:=eD V nm
 have Y:D.length≤1000:=by have:=T.1;rwa [rk]at this
 have c0:Ce w A.heap.size 0 (.slice a D.length cap):=by
  rw[O];exact Aj bN _ _ aC
 have c1:Ce w (A.heap.size+1) 0 (.string nm):=by
  rw[O];have h:Ce ((A.alloc (.cells #[.slice a D.length cap] 131)).alloc (.cells #[.string nm] 9)) ((A.alloc (.cells #[.slice a D.length cap] 131)).heap.size) 0 (.string nm):=aC;rwa [nw]at h
 have ay:=WV A.heap.size (A.heap.size+1) w.heap.size a cap D nm J w rfl c0 c1 Y (fun d hd=>by
  have Z:=T.2 d.pr (rW hd);have aa:=bw d.x;have ab:cnt d.pr.1=cnt d.x:=rfl;omega) ((ap.on I).on H) (fun i d F=>((V i d F).on I).on H) (fun i d F=>((Q i d F).on I).on H)
 have ad:∀s∈(List.range D.length).filterMap J,CB (Ag A.cell? S) s:=fun s R=>by
  obtain⟨i,F,e⟩:=rC.1 R;have az:=List.mem_range.1 F;exact(Q i _ (nt az)).at s e
 have a1:((List.range D.length).filterMap J).map Sp.pr=Bz nm (D.map Sp.pr):=Ql D J _ fun i d F=>(Q i d F).pr;refine(Ns ay (enters_of func176 (by kernel_rfl) rfl) (fun s R=>((ad s R).on I).on H) (nP (List.length_filterMap_le _ _) (by rw[List.length_range];exact Y))).mono ?_
 rintro e B ⟨ba,bb,rfl,Z,aa,ab,a6,a7⟩;have ak:=G.trans (a7.mono G.size);refine⟨_,rfl,?_,ak⟩;rw[←a1];exact Vn (n₀:=w.heap.size) (fun k a8=>nH (ao k a8) G.size) Z aa ab a6 ad (CN ak)
theorem XT{A w:World}{S:Nat→Bool}(T:∀k,S k=true→k<A.heap.size){a:Option Addr}{cap:Nat}{xs:List Nd}(hx:Cn (Ag A.cell? S) a xs)(a1:xs.length≤1000)(O:w=A.alloc (.cells #[.slice a xs.length cap] 30)):
 Calls prog 119 #[.func (.func 192) #[] #[pO A.heap.size 0]] w fun e B=>∃v,e=.returned v∧ES (Ag B.cell? S) v (Bq (BJ xs))∧Below A.heap.size A B:=by
 have J:Below A.heap.size A w:=by rw[O];exact bN
 have V:=Aj J;have Y:=Ci A.cell? S;have c0:Ce w A.heap.size 0 (.slice a xs.length cap):=by rw[O];exact aC
 obtain⟨G,Z,aa,t3,t4⟩:∃G:List Sp,G.length=xs.length∧G.map Sp.pr=BJ xs∧(∀s∈G,CB (Ag A.cell? S) s)∧∀i s,G[i]? =some s→∃b H,a=some (aD b H)∧s.b=b∧s.p=H+i*8∧s.ly=i:=by
  rcases hx with rfl|⟨b,H,e,f,ab⟩
  ·exact⟨[],rfl,rfl,fun s I=>(by cases I),fun i s F=>by simp at F⟩
  ·refine⟨xs.zipIdx.map fun q=>⟨b,H+q.2*8,q.2,q.1,f q.2⟩,by simp,?_,fun s I=>?_,fun i s F=>?_⟩
   ·rw[r4];exact List.map_id' _
   ·obtain⟨q,ad,rfl⟩:=rx.1 I
    have Q:=List.mem_zipIdx_iff_getElem?.1 ad;exact ab q.2 q.1 Q
   ·rw[n4,List.getElem?_zipIdx]at F
    cases hx:xs[i]? with
    |none=>rw[hx]at F;cases F
    |some x=>
     rw[hx]at F;simp only[r0,nV]at F;subst F;exact⟨b,H,e,rfl,by simp,by simp⟩
 have ak:=WW A.heap.size w.heap.size a cap G w (by rw[O,nw];omega) (nn _) (by rw[Z];exact c0) (by omega) t4;refine(Ns ak (enters_of func192 (by kernel_rfl) rfl) (fun s I=>((t3 s I).on Y).on V) (by omega)).mono ?_;rintro e B ⟨a6,a7,rfl,Q,ao,ap,ar,ay⟩;have R:=J.trans (ay.mono J.size);refine⟨_,rfl,?_,R⟩;rw[←aa];exact Vn (n₀:=w.heap.size) (fun k az=>nH (T k az) J.size) Q ao ap ar t3 (CN R)
end Go.Proofs.YtofhphibahcniaaGreatDoor
namespace Go.Proofs.YtofhphibahcniaaGreatDoor
open Go.RowKit Go.Proofs.Tryz
theorem Qk(n:Nat):(Builtin.zeroCells zK.cells n).size=n*9:=by rw[size_zeroCells];rfl
theorem Y1(n:Nat)(w:World)(aa:n≤1000):Calls prog 194 #[.slice none 0 0,iN n] w fun e w'=>(∃v,e=.returned v∧w'.ownsRow w.heap.size 89 9 v 0 (Bn []))∧Below w.heap.size w w':=by
 by_cases V:n=0
 ·subst V
  go_enter func194,ntmps194;go_wp2;go_ret;exact⟨⟨_,rfl,rB _ _ _ _⟩,nv _ _⟩
 obtain⟨Y,J,O,Q,R⟩:=DC Tryz.infoK;have F:∀G,(Builtin.append_ #[52,3] G #[nL,iN n]).run prog w=.ok (sL w.heap.size 0 n (grownCap w n 0 89)) (w.drew.alloc (.cells (Builtin.zeroCells zK.cells n++Builtin.zeroCells zK.cells (grownCap w n 0 89-n)) 89)):=fun G=>Lib.run_append_nil_zeros w 52 3 G 89 Y _ .i64 .i64 underlying52 underlying3 J O n (by omega) (by rw[Q];decide) (by omega) (by rw[R];omega);have Z:=grownCap_ge w n 0 89
 have H:grownCap w n 0 89≤maxLen:=grownCap_le_maxLen w n 0 89 (by unfold maxLen;omega)
 have I:(w.drew.alloc (.cells (Builtin.zeroCells zK.cells n++Builtin.zeroCells zK.cells (grownCap w n 0 89-n)) 89)).ownsRow w.heap.size 89 9 (sL w.heap.size 0 0 (grownCap w n 0 89)) 0 []:=
  World.ownsRow_made w.drew _ _ (nn _) H (by rw[Array.size_append,Qk,Qk];omega)
 have T:Below w.heap.size w (w.drew.alloc (.cells (Builtin.zeroCells zK.cells n++Builtin.zeroCells zK.cells (grownCap w n 0 89-n)) 89)):=(rz (nv _ w) 1).alloc (nn _) _;generalize w.drew.alloc (.cells (Builtin.zeroCells zK.cells n++Builtin.zeroCells zK.cells (grownCap w n 0 89-n)) 89)=ab at F I T;generalize grownCap w n 0 89=c at F Z H I;have ad:decide (0<n)=true:=nF (by omega);have ak:=nF (by omega);unfold maxLen at H;clear J O Q R;go_enter func194,ntmps194;go_wp2_with (at_builtin;refine Lib.wpList_append_run _ rfl _ _ _ _ rfl _ _ rfl rfl _ _ (F _) ?_)
 go_wp2;go_ret;exact⟨⟨_,rfl,I⟩,T⟩
structure Pt where
 a:Option Addr
 c:Nat
 l:BH
def Dj:List Pt→BH
 |[]=>[]
 |p::ps=>p.l++Dj ps
theorem MZ:∀A B:List Pt,Dj (A++B)=Dj A++Dj B
 |[],_=>rfl
 |p::A,B=>by simp[Dj,MZ A B]
theorem Qq{F:List Pt}{k:Nat}{p:Pt}(h:F[k]? =some p):Dj (F.take (k+1))=Dj (F.take k)++p.l:=by
 rw[rv,h,MZ];simp[Dj]
theorem ai(F:List Pt)(k:Nat):(Dj (F.take k)).length≤(Dj F).length:=by
 have:=MZ (F.take k) (F.drop k);rw[ry]at this;rw[this,nM];omega
theorem P9(Q ao:Nat)(F:List Pt)(w:World)(be:F.length≤10)(ap:(Dj F).length≤1000)
 (Y:∀i p,F[i]? =some p→w.cell? (aD Q i)=some (.slice p.a p.l.length p.c)∧Cv w.cell? p.a p.l):
 Calls prog 172 #[sL Q 0 F.length ao] w fun e w'=>(∃v,e=.returned v∧w'.ownsRow w.heap.size 89 9 v (Dj F).length (Bn (Dj F)))∧Below w.heap.size w w':=by
 obtain⟨ar,ay,az,a1,a6⟩:=DC Tryz.infoK;have Z:=hid Y;have aa:=hid (ai F);clear Y;go_enter func172,ntmps172;go_wp2;go_loop [11,3] (fun i s=>∃k:Nat,k≤F.length∧i=iN k∧s=iN (Dj (F.take k)).length) (fun i _=>F.length-(intOf i).toNat)
 case atStart=>exact⟨0,nN _,rfl,rfl⟩
 case round=>
  obtain⟨k,a7,rfl,rfl⟩:=hrel;by_cases R:k<F.length
  ·obtain⟨p,I⟩:∃p,F[k]? =some p:=⟨F[k],by simp[R]⟩
   obtain⟨q,_⟩:=Z.out k p I;have a8:(k:Int)<(F.length:Int):=by omega
   have J:=hid (Qq I);have T:(Dj (F.take k)).length+p.l.length≤1000:=by
    have:=aa.out (k+1);rw[J.out,nM]at this;omega
   have ab:Hid ((Dj (F.take (k+1))).length=(Dj (F.take k)).length+p.l.length):=by show _=_;rw[J.out,nM]
   clear I J;generalize(Dj (F.take k)).length=s at T ab⊢;go_wp2;go_round
   case rel=>exact⟨k+1,by omega,by go_num,by rw[ab.out];go_num⟩
   case measure=>simp[intOf];omega
  ·have O:F.take k=F:=n1 (by omega)
   rw[O];clear O;go_wp2_with fail
   refine(Y1 _ _ ap).mono ?_;rintro e bf ⟨⟨v,rfl,G⟩,H⟩;go_wp2;go_loopw [27,6] (fun i s wr=>∃k:Nat,k≤F.length∧i=iN k∧wr.ownsRow w.heap.size 89 9 s (Dj (F.take k)).length (Bn (Dj (F.take k)))∧Below w.heap.size w wr) (fun i _ _=>F.length-(intOf i).toNat)
   case atStart=>exact⟨0,nN _,rfl,G,H⟩
   case round=>
    obtain⟨k,a7,rfl,G,H⟩:=hrel;by_cases R:k<F.length
    ·obtain⟨p,I⟩:∃p,F[k]? =some p:=⟨F[k],by simp[R]⟩
     obtain⟨q,ad⟩:=Z.out k p I;have a8:(k:Int)<(F.length:Int):=by omega
     have J:=hid (Qq I);have T:(Dj (F.take k)).length+p.l.length≤1000:=by
      have:=aa.out (k+1);rw[J.out,nM]at this;omega
     have q2:Ce wr Q k (.slice p.a p.l.length p.c):=(H.cell (p:=(aD Q k)) (bL q)).trans q;have V:=H.size;have ba:=ad.on (Aj H);clear I q ad;generalize Dj (F.take k)=P at T J G⊢;go_wp2_with (at_builtin;refine DZ _ rfl (.tmp 31) (.tmp 32) 52 rfl w.heap.size 89 ar zK 9 120 underlying52 ay az a1 a6 rfl (by decide) _ P.length (Bn P) rfl G p.a p.l.length p.c (Bn p.l) rfl (Ht p.l) (Qu ba) (Md _) (by unfold maxLen;omega) (by omega) V ?_)
     intro bg bi bb ak _;have bd:=H.grown ak V (fun q e=>(G.lt q e).1);clear ak G H V;go_wp2;go_roundw
     case rel=>exact⟨k+1,by omega,by go_num,by rw[J.out,nM,J0];exact bb,bd⟩
     case measure=>simp[intOf];omega
    ·have O:F.take k=F:=n1 (by omega)
     rw[O]at G;clear O;go_wp2;go_ret;exact⟨⟨_,rfl,G⟩,H⟩
end Go.Proofs.YtofhphibahcniaaGreatDoor
