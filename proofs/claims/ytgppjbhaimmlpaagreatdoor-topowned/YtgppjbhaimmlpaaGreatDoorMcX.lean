/-
  TopOwned: Mc Md Me Mf Mg Wn.
-/
import Derived.Test.YtgppjbhaimmlpaaGreatDoorApX
import Derived.Test.YtgppjbhaimmlpaaGreatDoorMaX
import Derived.RangeFuncBox
import Derived.Lib.AppendZeros
set_option maxRecDepth 100000
set_option maxHeartbeats 16000000
namespace Go.Proofs.YtgppjbhaimmlpaaGreatDoor
open Go.RowKit Go.Shelf Go.Proofs.Tryz
theorem Zj(n m:BA)(x:Nd)(h:Hd)(F:Nat)(w:World)(H:w.cell? (aD F 0)=some (.string m)):
 Calls prog 104 #[Pa n x h,pO F 0] w fun e w'=>e=.returned (.bool (decide (n=m)))∧Below w.heap.size w w':=by
 obtain⟨k,G,u,g,o,nh,d,ks⟩:=x;have I:Below w.heap.size w (w.alloc (.cells #[.string n,iN k,iN G,iN u,iN g,.bool o,.slice h.aa nh.length h.ca,.string d,.slice h.ak ks.length h.ck] 73)):=bN;have c0:=I0.newW w n k G u g o nh d ks h 73;have c1:Ce (w.alloc (.cells #[.string n,iN k,iN G,iN u,iN g,.bool o,.slice h.aa nh.length h.ca,.string d,.slice h.ak ks.length h.ck] 73)) F 0 (.string m):=(I.cell (p:=(aD F 0)) (bL H)).trans H;have J:F<w.heap.size:=bL H;show cL 104 #[.agg #[.string n,iN k,iN G,iN u,iN g,.bool o,.slice h.aa nh.length h.ca,.string d,.slice h.ak ks.length h.ck],pO F 0] _ _;go_enter func104,ntmps104;go_wp2;go_ret;exact⟨Bf (by rw[←UN]),I⟩
theorem Sd(a:Option Addr)(cap H:Nat)(ks:At)(m:BA)(w:World)(bs:ks.length≤1000)(h:DP w.cell? a ks)(O:w.cell? (aD H 0)=some (.string m)):
 Calls prog 102 #[.slice a ks.length cap,.func (.func 104) #[] #[pO H 0]] w fun e w'=>e=.returned (iN (Cz (fun n=>decide (n=m)) ks 0))∧Below w.heap.size w w':=by
 obtain⟨F,Q⟩:∃F,Hid (Cz (fun n=>decide (n=m)) ks 0=F):=⟨_,rfl⟩;rw[Q.out];have a1:=hid O;have ad:=hid h;have a6:H<w.heap.size:=bL O;clear O h;by_cases R:ks=[]
 ·subst R
  have T:=hid Q.out.symm;go_enter func102,ntmps102;go_wp2;go_loop [8] (fun i=>i=iN 0) (fun _=>0)
  case atStart=>rfl
  case round=>
   subst hrel;go_wp2;go_ret;exact⟨Di T.out.symm,nt _ _⟩
 obtain⟨b,I,rfl,f,J⟩:∃b I,a=some (aD b I)∧∃f:Nat→Hd,∀i n x,ks[i]? =some (n,x)→Dd w.cell? b (I+i*9) n x (f i):=by
  rcases ad.out with e|⟨b,I,e,f,J⟩
  ·exact absurd e R
  ·exact⟨b,I,e,f,fun i n x a7=>(J i n x a7).1⟩
 have a8:=hid J;clear J R ad;go_enter func102,ntmps102;go_wp2;go_loopw [8] (fun i wr=>∃j:Nat,j≤ks.length∧i=iN j∧Hid (F=Cz (fun n=>decide (n=m)) (ks.drop j) j)∧Below w.heap.size w wr) (fun i _=>ks.length-(intOf i).toNat)
 case atStart=>exact⟨0,nM _,rfl,Q.out.symm,nt _ _⟩
 case round=>
  obtain⟨j,bu,rfl,V,G⟩:=hrel;by_cases ba:j<ks.length;rotate_left
  ·have bb:decide ((j:Int)<(ks.length:Int))=false:=nA (by omega)
   have T:Hid (F=-1):=by show _=_;rw[V.out,n7 (by omega),Cz]
   go_wp2;go_ret;exact⟨Di T.out.symm,G⟩
  have bb:(j:Int)<(ks.length:Int):=by omega
  obtain⟨⟨n,x⟩,hx⟩:∃x,ks[j]? =some x:=⟨ks[j],by simp[ba]⟩;have Y:=(a8.out j n x hx).below G;have ak:=(G.cell (p:=(aD H 0)) a6).trans a1.out;have Z:=hid (V.out.trans (M1 hx));clear hx V;generalize f j=bd at Y;have ao:=Zj n m x bd H wr ak;have aa:=hid ao;obtain⟨t,ap⟩:∃t,(decide (n=m))=t:=⟨_,rfl⟩;rw[ap]at Z aa;clear ap ao ak;obtain⟨bv,bx,bA,bB,bC,bF,bG,bH⟩:=x;obtain⟨be,bf,bg,bi,bk,bl,bn,bo,bp⟩:=Y.nine;clear Y;go_wp2_with fail
  refine aa.out.mono ?_;rintro e bY ⟨rfl,c2⟩;have az:=G.trans (c2.mono G.size);clear be bf bg bi bk bl bn bo bp c2 G aa;cases t
  ·have ab:Hid (F=Cz (fun n=>decide (n=m)) (ks.drop (j+1)) (j+1)):=by show _=_;rw[Z.out,nB (by simp)]
   go_wp2;go_roundw
   case rel=>exact⟨j+1,by omega,by go_num,ab.out,az⟩
   case measure=>simp[intOf];omega
  ·have ab:Hid (F=j):=by show _=_;rw[Z.out,nC rfl]
   go_wp2;go_ret;exact⟨Di ab.out.symm,az⟩
theorem Bj.split{c:AJ}{b p:Nat}{k m u g:Int}{o:Bool}{nh:List Kv}{d:BA}{ks:At}{h:Hd}(F:Bj c b p (.mk k m u g o nh d ks) h):c ⟨b,p,none⟩=some (.int .i64 k)∧c ⟨b,p+4,none⟩=some (.bool o)∧c ⟨b,p+7,none⟩=some (.slice h.ak ks.length h.ck):=⟨F.1,F.2.2.2.2.1,F.2.2.2.2.2.2.2⟩
theorem GA(w:World)(u v:Value)(t:TypeId):(w.alloc (.cells #[u,v] t)).cell? ⟨w.heap.size,0,none⟩=some u∧(w.alloc (.cells #[u,v] t)).cell? ⟨w.heap.size,1,none⟩=some v:=⟨nk _ _ _ _ rfl,nk _ _ _ _ rfl⟩
def Nd.dirKs(x:Nd):At:=if x.kind=2 then x.kids else []
theorem RQ{w:World}{s:Sp}(H:Cx w.cell? s):
 Calls prog 103 #[s.v] w fun e w'=>e=.returned (if s.x.kind=2 then .slice s.h.ak s.x.kids.length s.h.ck else .slice none 0 0)∧Below w.heap.size w w':=by
 obtain⟨b,p,ly,⟨k,m,u,g,o,nh,d,ks⟩,h⟩:=s;have F:Below w.heap.size w (w.alloc (.cells #[pO b p,iN ly] 104)):=bN;obtain⟨c0,c1⟩:=GA w (pO b p) (iN ly) 104;obtain⟨I,O,J⟩:=(H.1.below F).split;show cL 103 #[.agg #[pO b p,iN ly]] w fun e w'=>e=.returned (if k=2 then .slice h.ak ks.length h.ck else .slice none 0 0)∧Below w.heap.size w w';dsimp only at I J
 by_cases G:k=2
 ·subst G
  go_enter func103,ntmps103;go_wp2;go_ret;exact⟨rfl,F⟩
 ·rw[nB G]
  go_enter func103,ntmps103;go_wp2;go_ret;exact⟨rfl,F⟩
theorem Zm{c:AJ}{s:Sp}(O:Cx c s)(nm:BA):
 (He nm s.x=-1∧Cz (fun n=>decide (n=nm)) s.x.dirKs 0=-1)∨∃(b F j:Nat) (y:Nd) (J:Hd),s.x.kind=2∧s.h.ak=some (aD b F)∧He nm s.x=j∧Cz (fun n=>decide (n=nm)) s.x.dirKs 0=j∧s.x.kids[j]? =some (nm,y)∧j<s.x.kids.length∧Cx c ⟨b,F+j*9+1,s.ly,y,J⟩:=by
 obtain⟨b,p,ly,⟨k,m,u,g,o,nh,d,ks⟩,h⟩:=s;show((if k=2 then Bl nm ks 0 else-1)=-1∧Cz (fun n=>decide (n=nm)) (if k=2 then ks else []) 0=-1)∨∃(b F j:Nat) (y:Nd) (J:Hd),k=2∧h.ak=some (aD b F)∧(if k=2 then Bl nm ks 0 else-1)=(j:Int)∧Cz (fun n=>decide (n=nm)) (if k=2 then ks else []) 0=j∧ks[j]? =some (nm,y)∧j<ks.length∧Cx c ⟨b,F+j*9+1,ly,y,J⟩;by_cases G:k=2
 ·rw[nC G,nC G,Nl]
  rcases Hw nm ks 0 with⟨H,_⟩|⟨j,x,H,I,_⟩
  ·exact .inl ⟨H,H⟩
  ·right
   obtain⟨_,_,_,Q⟩:=Cj.1 O.2;rcases Q with e|⟨R,F,e,f,T⟩
   ·subst e;simp at I
   ·obtain⟨g1,V⟩:=T j nm x I
    refine⟨R,F,j,x,f j,G,e,by rw[H];simp,by rw[H];simp,I,(nw.1 I).1,g1.2,V⟩
 ·rw[nB G,nB G]
  exact .inl ⟨rfl,rfl⟩
attribute [local go_sem] Oper.semAt_some
theorem Ig{B:Nat}{a w:World}(h:Below B a w)(n:Nat):Below B a (w.drewN n):=⟨h.os,h.tape,h.output,h.size,h.block⟩
def KO(c:AJ)(nm:BA)(d:Sp)(o:Option Sp):Prop:=
 (o=none∧He nm d.x=-1∧Cz (fun n=>decide (n=nm)) d.x.dirKs 0=-1)∨∃(b F j:Nat) (y:Nd) (G:Hd),o=some ⟨b,F+j*9+1,d.ly,y,G⟩∧d.x.kind=2∧d.h.ak=some ⟨b,F,none⟩∧He nm d.x=j∧Cz (fun n=>decide (n=nm)) d.x.dirKs 0=j∧d.x.kids[j]? =some (nm,y)∧j<d.x.kids.length∧Cx c ⟨b,F+j*9+1,d.ly,y,G⟩
theorem cX{c:AJ}{d:Sp}(F:Cx c d)(nm:BA):∃o,KO c nm d o:=by
 rcases Zm F nm with h|⟨b,G,j,y,H,h⟩
 ·exact⟨none,.inl ⟨rfl,h⟩⟩
 ·exact⟨some _,.inr ⟨b,G,j,y,H,rfl,h⟩⟩
theorem bW{c:AJ}{D:List Sp}(G:∀(i:Nat) d,D[i]? =some d→Cx c d)(nm:BA):∃H:Nat→Option Sp,∀(i:Nat) d,D[i]? =some d→KO c nm d (H i):=by
 have F:∀i:Nat,∃o,∀d,D[i]? =some d→KO c nm d o:=fun i=>by
  cases h:D[i]? with
  |none=>exact⟨none,fun d hd=>by cases hd⟩
  |some d=>
   obtain⟨o,I⟩:=cX (G i d h) nm;exact⟨o,fun e J=>by cases J;exact I⟩
 exact⟨fun i=>Classical.choose (F i),fun i d O=>rg (F i) d O⟩
def CV(nm:BA)(x:Nd):Option Nd:=if He nm x<0 then none else(x.kids[(He nm x).toNat]?).map (·.2)
def Bc(nm:BA)(l:List (Nd×Nat)):List (Nd×Nat):=l.filterMap fun q=>(CV nm q.1).map fun y=>(y,q.2)
theorem KO.pr{c:AJ}{nm:BA}{d:Sp}{o:Option Sp}(h:KO c nm d o):o.map Sp.pr=(CV nm d.x).map fun y=>(y,d.ly):=by
 unfold CV;rcases h with⟨rfl,e,_⟩|⟨b,G,j,y,H,rfl,_,_,e,_,F,_⟩
 ·rw[e];simp
 ·rw[e,nB (by omega)]
  simp[F,Sp.pr]
theorem KO.at{c:AJ}{nm:BA}{d:Sp}{o:Option Sp}(h:KO c nm d o):∀s,o=some s→Cx c s:=by
 rcases h with⟨rfl,_⟩|⟨b,G,j,y,H,rfl,_,_,_,_,_,_,h⟩
 ·intro s F;cases F
 ·intro s F;cases F;exact h
theorem PQ:∀(D:List Sp) (F:Nat→Option Sp) (G:Nd×Nat→Option (Nd×Nat)),(∀i d,D[i]? =some d→(F i).map Sp.pr=G d.pr)→((List.range D.length).filterMap F).map Sp.pr=(D.map Sp.pr).filterMap G
 |[],F,G,_=>rfl
 |d::D,F,G,h=>by
  have H:=PQ D (fun i=>F (i+1)) G fun i e I=>h (i+1) e (by simpa using I);have J:=h 0 d rfl
  have O:List.filterMap F (List.map Nat.succ (List.range D.length))=List.filterMap (fun i=>F (i+1)) (List.range D.length):=by rw[List.filterMap_map];rfl
  rw[n3,List.range_succ_eq_map,rr,rh,rr,←J,O];cases F 0 with
  |none=>exact H
  |some s=>simp only[rh,r0];rw[H]
theorem ax(F:Nat→Option Sp)(N i:Nat)(H:i<N){s:Sp}(G:F i=some s):((List.range N).filterMap F)[((List.range i).filterMap F).length]? =some s:=by
 obtain⟨k,rfl⟩:∃k,N=(i+1)+k:=⟨N-(i+1),by omega⟩;rw[List.range_add,List.filterMap_append,List.range_succ,List.filterMap_append];simp[G]
theorem QY(F:Nat→Option Sp)(i:Nat):((List.range (i+1)).filterMap F).length=((List.range i).filterMap F).length+(if(F i).isSome then 1 else 0):=by
 rw[List.range_succ,List.filterMap_append];cases h:F i<;>simp[h]
def Dx(c:AJ)(a:Option Addr)(D:List Sp):Prop:=D=[]∨∃b F,a=some ⟨b,F,none⟩∧∀i d,D[i]? =some d→c ⟨b,F+i*2,none⟩=some (.pointer (some ⟨d.b,d.p,none⟩))∧c ⟨b,F+i*2+1,none⟩=some (.int .i64 d.ly)
theorem ZM{w:World}{d:Sp}(I:Cx w.cell? d)(nm:BA)(F:Nat)(J:d.x.kids.length≤1000)(H:w.cell? (aD F 0)=some (.string nm)):
 Calls prog 102 #[if d.x.kind=2 then .slice d.h.ak d.x.kids.length d.h.ck else .slice none 0 0,.func (.func 104) #[] #[pO F 0]] w fun e w'=>e=.returned (iN (Cz (fun n=>decide (n=nm)) d.x.dirKs 0))∧Below w.heap.size w w':=by
 unfold Nd.dirKs;by_cases G:d.x.kind=2
 ·rw[nC G,nC G]
  obtain⟨b,p,ly,⟨k,m,u,g,o,nh,O,ks⟩,h⟩:=d;exact Sd h.ak h.ck F ks nm w J (Cj.1 I.2).2.2.2 H
 ·rw[nB G,nB G]
  exact Sd none 0 F [] nm w (by simp) (.inl rfl) H
theorem VX(I F n₀:Nat)(a:Option Addr)(cap:Nat)(D:List Sp)(nm:BA)(G:Nat→Option Sp)(w:World)(b9:n₀=w.heap.size)(hd:w.cell? (aD I 0)=some (.slice a D.length cap))(ab:w.cell? (aD F 0)=some (.string nm))(cb:D.length≤1000)(bd:∀d∈D,d.x.kids.length≤1000)
 (be:Dx w.cell? a D) (bf:∀(i:Nat) d,D[i]? =some d→Cx w.cell? d) (bg:∀(i:Nat) d,D[i]? =some d→KO w.cell? nm d (G i)):
 Mo 101 #[pO I 0,pO F 0] n₀ w ((List.range D.length).filterMap G):=by
 subst b9;intro l ad bi W bk J bl cf;have cg:I<w.heap.size:=bL hd;have ch:F<w.heap.size:=bL ab;have cl:=(bk.cell (p:=(aD I 0)) cg).trans hd;show CallsIn Fence.wide 0 prog 101 #[.func (.yield l) #[] #[],pO I 0,pO F 0] W _;refine callsIn_of_wp func101 rfl trivial ?_ rfl;simp only[ntmps101,List.size_toArray,n3,nQ,Nat.reduceAdd,Nat.reduceSub,r9,r8,List.push_toArray,List.append_toArray,ru,n9];have ak:Hid _:=bl;have co:Hid _:=be;have ao:Hid _:=bf;have cp:Hid _:=bg;have cq:Hid _:=bd;have cr:Hid _:=ab;obtain⟨N,bn⟩:=A3 D.length;rw[bn.out]at cl cb ak⊢;clear bl be bf bg bd hd ab;gi_wp2
 gi_loopw [5,6,9] (fun _ _ i wr=>∃j:Nat,j≤N∧i=iN j∧ad ((List.range j).filterMap G).length wr∧Below w.heap.size w wr) (fun _ _ i _=>N-(intOf i).toNat)
 case atStart=>exact⟨0,nM _,rfl,cf,bk⟩
 case round=>
  obtain⟨j,dj,rfl,bo,O⟩:=hrel;by_cases bp:j<N;rotate_left
  ·have cu:decide ((j:Int)<(N:Int))=false:=nA (by omega)
   gi_wp2
   go_end0
   exact⟨⟨_,rfl⟩,.inl (by rw[show N=j by omega];exact bo)⟩
  ·have cu:decide ((j:Int)<(N:Int))=true:=nE (by omega)
   obtain⟨d,hd⟩:∃d,D[j]? =some d:=⟨_,np (by rw[bn.out];exact bp)⟩;obtain⟨b,V,rfl,cx⟩:∃b V,a=some (aD b V)∧∀i d,D[i]? =some d→Ce w b (V+i*2) (pO d.b d.p)∧Ce w b (V+i*2+1) (iN d.ly):=by
    rcases co.out with e|e
    ·subst e;simp at hd
    ·exact e
   obtain⟨bs,bu⟩:=cx j d hd;have bs:=Aj O _ _ bs;have bu:=Aj O _ _ bu;have Y:Below wr.heap.size wr (wr.alloc (.cells #[pO d.b d.p,iN d.ly] 104)):=bN;obtain⟨c0,c1⟩:=GA wr (pO d.b d.p) (iN d.ly) 104;have bv:=(ao.out j d hd).below O;have ap:=O.trans (Y.mono O.size);have bx:=J _ _ _ bo Y;have az:Hid (CallsIn Fence.wide 0 prog 103 #[.agg #[pO d.b d.p,iN d.ly]] (wr.alloc (.cells #[pO d.b d.p,iN d.ly] 104)) _):=rX.2 (RQ (bv.below Y));have a1:Hid (∀W2:World,Below w.heap.size w W2→CallsIn Fence.wide 0 prog 102 #[if d.x.kind=2 then .slice d.h.ak d.x.kids.length d.h.ck else nL,.func (.func 104) #[] #[pO F 0]] W2 fun e cA=>e=.returned (iN (Cz (fun n=>decide (n=nm)) d.x.dirKs 0))∧Below W2.heap.size W2 cA):=fun W2 bA=>rX.2 (ZM (ao.out j d hd |>.below bA) nm F (cq.out d (nD hd)) ((bA.cell (p:=(aD F 0)) ch).trans cr.out));obtain⟨bB,cB⟩:∃bB,Hid ((if d.x.kind=2 then .slice d.h.ak d.x.kids.length d.h.ck else .slice none 0 0:Value)=bB):=⟨_,rfl⟩
   rw[cB.out]at az a1;gi_wp2_with fail
   refine⟨trivial,rfl,CallsIn.mono az.out ?_⟩;rintro e c3 ⟨rfl,Q⟩;have Z:=ap.trans (Q.mono ap.size);have bC:=J _ _ _ bx Q;have bF:=Aj Q _ _ c0;have bG:=Aj Q _ _ c1;clear az c0 c1 ap Q bx Y;have bH:Hid _:=a1.out c3 Z;gi_wp2_with fail
   refine⟨trivial,rfl,CallsIn.mono bH.out ?_⟩;rintro e H ⟨rfl,R⟩;have a6:=Z.trans (R.mono Z.size);have bY:=J _ _ _ bC R;have c4:=Aj R _ _ bF;have c5:=Aj R _ _ bG;have a7:=(ao.out j d hd).below a6;clear a1 bH bF bG Z R bC bv;rcases cp.out j d hd with⟨aa,_,a8⟩|⟨dk,dm,dn,y,dp,aa,a8,b0,_,b1,c6,c8,c9⟩
   ·rw[a8]
    have da:prog.follows .mixedOrders=true:=by kernel_rfl
    gi_wp2_with fail
    refine wpIn_region_quiet_lit rfl (by kernel_rfl) (by kernel_rfl) ?_;repeat(gi_big_quiet_step (fail))
    refine BigFrame.wpQuietIn_skip (fun _ _ _ _=>trivial) rfl ?_;simp only[go_sem,List.setIfInBounds_toArray,List.set_cons_succ,List.set_cons_zero];repeat(gi_big_quiet_step (fail))
    refine wpQuietIn_nil ?_;rintro _ ⟨nq,rfl⟩;gi_wp2
    go_roundw
    case rel=>exact⟨j+1,by omega,by go_num,by rw[QY,aa];exact J _ _ _ bY (Ig (nt _ _) nq),Ig a6 nq⟩
    case measure=>(simp[intOf];try omega)
   ·have da:prog.follows .mixedOrders=true:=by kernel_rfl
    have b2:=ax G N j bp aa;obtain⟨fn,tmps,assign,body,b3,b4⟩:=ak.out _ _ H.drew b2 (J _ _ _ bY (nt _ _).drew);have db:Hid (RoundIn Fence.wide 0 prog l fn tmps assign body H.drew fun e B=>∃T,e=.returned (.bool T)∧((T=true∧ad (((List.range j).filterMap G).length+1) B∧Below w.heap.size H.drew B)∨(T=false∧bi B))):=RoundIn.mono b4 fun e B h=>by
     rcases h with⟨rfl,ba,dd⟩|⟨rfl,ba⟩
     ·exact⟨true,rfl,.inl ⟨rfl,ba,dd⟩⟩
     ·exact⟨false,rfl,.inr ⟨rfl,ba⟩⟩
    rw[Sp.v]at b3;dsimp only at b3;obtain⟨dr,_,b5⟩:Ce H.drew d.b d.p (iN d.x.kind)∧True∧Ce H.drew d.b (d.p+7) (.slice d.h.ak d.x.kids.length d.h.ck):=by
     obtain⟨b,p,ly,⟨k,m,u,g,o,nh,ds,ks⟩,h⟩:=d;exact⟨a7.1.split.1,trivial,a7.1.split.2.2⟩
    rw[b0]at b5;have c7:=c4;have du:=c5;rw[b1];obtain⟨dw,de⟩:=A3 d.x.kids.length;rw[de.out]at b5 c8;clear b4 b2 a8 b0 b1 c6 c9 a7 ak;gi_wp2_with fail
    gi_region_with_o (refine⟨rfl,RoundIn.mono db.out ?_⟩;rintro e bb ⟨T,rfl,b6⟩)
    all_goals
     cases T with
     |true=>
      have b7:ad (((List.range j).filterMap G).length+1) bb∧Below w.heap.size H.drew bb:=by
       rcases b6 with⟨_,h⟩|⟨h,_⟩
       ·exact h
       ·cases h
      gi_wp2
      go_roundw
      case rel=>exact⟨j+1,by omega,by go_num,by rw[QY,aa];exact b7.1,a6.trans (Below.trans (nt _ _).drew b7.2)⟩
      case measure=>(simp[intOf];try omega)
     |false=>
      have dg:bi bb:=by
       rcases b6 with⟨h,_⟩|⟨_,h⟩
       ·cases h
       ·exact h
      gi_wp2
      refine nF (results_none rfl _ _ _) rfl ?_;exact⟨⟨_,rfl⟩,.inr dg⟩
def Nd.opq:Nd→Bool
 |.mk _ _ _ _ o _ _ _=>o
def DZ:List (Nd×Nat)→List (Nd×Nat)
 |[]=>[]
 |s::r=>if s.1.kind≠2 then []else if s.1.opq=true then [s]else s::DZ r
def A8:List (Nd×Nat)→List (Nd×Nat)
 |[]=>[]
 |s::r=>if s.1.kind=1 then [s]else DZ (s::r)
def Er:List Sp→List Sp
 |[]=>[]
 |s::r=>if s.x.kind≠2 then []else if s.x.opq=true then [s]else s::Er r
def Bp:List Sp→List Sp
 |[]=>[]
 |s::r=>if s.x.kind=1 then [s]else Er (s::r)
theorem SW:∀H:List Sp,(Er H).map Sp.pr=DZ (H.map Sp.pr)
 |[]=>rfl
 |s::r=>by
  rw[Er,rh,DZ];by_cases F:s.x.kind≠2
  ·rw[nC F,nC (show s.pr.1.kind≠2 from F)];rfl
  ·rw[nB F,nB (show¬s.pr.1.kind≠2 from F)]
   by_cases G:s.x.opq=true
   ·rw[nC G,nC (show s.pr.1.opq=true from G)];rfl
   ·rw[nB G,nB (show¬s.pr.1.opq=true from G),rh,SW r]
theorem Oo(G:List Sp):(Bp G).map Sp.pr=A8 (G.map Sp.pr):=by
 cases G with
 |nil=>rfl
 |cons s r=>
  rw[Bp,rh,A8];by_cases F:s.x.kind=1
  ·rw[nC F,nC (show s.pr.1.kind=1 from F)];rfl
  ·rw[nB F,nB (show¬s.pr.1.kind=1 from F),SW];rfl
theorem SE:∀(F:List Sp) s,s∈Er F→s∈F
 |[],s,h=>by cases h
 |t::r,s,h=>by
  rw[Er]at h;split at h
  ·cases h
  split at h
  ·rw[rj]at h;rw[h];exact nJ ..
  ·rcases nX.1 h with e|e
   ·rw[e];exact nJ ..
   ·exact n2 _ (SE r s e)
theorem SV(F:List Sp)(s:Sp)(h:s∈Bp F):s∈F:=by
 cases F with
 |nil=>cases h
 |cons t r=>
  rw[Bp]at h;split at h
  ·rw[rj]at h;rw[h];exact nJ ..
  ·exact SE _ _ h
theorem So:∀F:List Sp,(Er F).length≤F.length
 |[]=>nl _
 |t::r=>by
  rw[Er];split
  ·exact nM _
  split
  ·simp
  ·simp;exact So r
theorem bq(F:List Sp):(Bp F).length≤F.length:=by
 cases F with
 |nil=>exact nl _
 |cons t r=>
  rw[Bp];split
  ·simp
  ·exact So _
def Ki(L:List Sp):Prop:=∀s∈L,s.x.kind=2∧s.x.opq=false
theorem Y0{L:List Sp}(h:Ki L)(r:List Sp):Er (L++r)=L++Er r:=by
 induction L with
 |nil=>rfl
 |cons s L G=>
  have F:=h s (nJ ..);rw[n9,Er,nB (by rw[F.1];simp),nB (by rw[F.2];simp),G fun t H=>h t (n2 _ H)];rfl
theorem NZ{L:List Sp}(h:Ki L)(F:L≠[])(r:List Sp):Bp (L++r)=L++Er r:=by
 cases L with
 |nil=>exact absurd rfl F
 |cons s L=>
  have G:=h s (nJ ..);rw[←Y0 h r,n9,Bp,nB (by rw[G.1];decide)]
theorem Tk{s:Sp}(F:s.x.kind≠1)(L r:List Sp)(G:Ki L):Bp (L++s::r)=L++Er (s::r):=by
 cases L with
 |nil=>rw[ru,Bp,nB F];rfl
 |cons t L=>exact NZ G (by simp) _
def Dp:List Sp→List Value
 |[]=>[]
 |s::r=>.pointer (some ⟨s.b,s.p,none⟩)::.int .i64 s.ly::Dp r
theorem M3:∀a b:List Sp,Dp (a++b)=Dp a++Dp b
 |[],b=>rfl
 |s::a,b=>by simp[Dp,M3 a b]
theorem Nx:∀(L:List Sp) (i:Nat) (s:Sp),L[i]? =some s→(Dp L)[i*2]? =some (pO s.b s.p)∧(Dp L)[i*2+1]? =some (iN s.ly)
 |[],i,s,h=>by simp at h
 |t::L,0,s,h=>by simp at h;subst h;exact⟨rfl,rfl⟩
 |t::L,i+1,s,h=>by
  have:=Nx L i s (by simpa using h);rw[show(i+1)*2=i*2+2 by omega];simpa [Dp]using this
def Jv(base:Nat)(a:Option Addr)(L:List Sp):Prop:=L=[]∨∃g F,a=some ⟨g,F,none⟩∧base≤g
theorem Jc{w:World}{base:Nat}{t:TypeId}{v:Value}{L:List Sp}(h:w.ownsRow base t 2 v L.length (Dp L)):∃a cap,v=.slice a L.length cap∧L.length≤cap∧cap≤9223372036854775807∧Dx w.cell? a L∧Jv base a L:=by
 rcases h.2 with⟨rfl,F⟩|⟨g,cap,Y,rfl,hb,G,I,J,Z,H⟩
 ·rw[F]
  exact⟨none,0,rfl,nl _,by omega,.inl (rp.1 F),.inl (rp.1 F)⟩
 ·refine⟨some (aD g 0),cap,rfl,I,by simpa [maxLen]using J,.inr ⟨g,0,rfl,fun i d O=>?_⟩,.inr ⟨g,0,rfl,hb⟩⟩
  obtain⟨Q,R⟩:=Nx L i d O;have T:=Fq G H Q;have V:=Fq G H R;rw[nT];exact⟨T,V⟩
theorem Ps{A B:World}(h:Below A.heap.size A B):A.grownBy B none:=⟨h.os,h.tape,h.output,h.size,fun k F _=>h.block k F⟩
theorem En{A B:World}{b:Nat}{t:TypeId}{v:Value}(h:Boxed A b t v)(hb:Below A.heap.size A B):Boxed B b t v:=h.kept (Ps hb) (by simp)
theorem GR{A B:World}{base:Nat}{t:TypeId}{n k:Nat}{v:Value}{xs:List Value}(h:A.ownsRow base t n v k xs)(hb:Below A.heap.size A B):B.ownsRow base t n v k xs:=by
 refine h.kept (Ps hb) ?_;cases hv:v.ownBlock with
 |none=>exact .inl rfl
 |some b=>exact .inr (by simp)
theorem FY{A:World}{b l:Nat}{t:TypeId}{v:Value}(h:Boxed A b t v){r:Loop}(F:A.heap[l]? =some (.loop r))(o:Obj):Boxed (A.putObj l o) b t v:=h.kept (grownBy_putObj' A l o) (fun e=>by
 cases e;rw[show A.heap[b]? =_ from h]at F;cases F)
theorem Fr{A:World}{n₀ l:Nat}(F:n₀≤A.heap.size)(G:n₀≤l)(o:Obj):Below n₀ A (A.putObj l o):=(nt n₀ A).grown (grownBy_putObj' A l o) F (fun k e=>by cases e;exact G)
structure E4 (w W:World) (L:List Sp) (st:Loop):Prop where
 low:Below w.heap.size w W
 rb:Boxed W w.heap.size 100 (.slice none 0 0)
 sb:∃v,Boxed W (w.heap.size+1) 100 v∧W.ownsRow w.heap.size 104 2 v L.length (Dp L)
 dk:W.heap[w.heap.size+1+1]? =some (.deferred (some []))
 lk:W.heap[w.heap.size+1+1+1]? =some (.loop st)
theorem E4.keep{w A B:World}{L:List Sp}{st:Loop}(h:E4 w A L st)(hb:Below A.heap.size A B):E4 w B L st:=by
 obtain⟨v,F,G⟩:=h.sb;refine⟨h.low.trans (hb.mono h.low.size),En h.rb hb,⟨v,En F hb,GR G hb⟩,?_,?_⟩
 ·exact(hb.block _ (nI.1 h.dk).1).trans h.dk
 ·exact(hb.block _ (nI.1 h.lk).1).trans h.lk
theorem E4.put{w A:World}{L:List Sp}{st:Loop}(h:E4 w A L st)(F:Loop):E4 w (A.putObj (w.heap.size+1+1+1) (.loop F)) L F:=by
 obtain⟨v,G,H⟩:=h.sb;refine⟨h.low.trans (Fr h.low.size (by omega) _),FY h.rb h.lk _,⟨v,FY G h.lk _,ownsRow_putObj H _ h.lk rfl⟩,?_,?_⟩
 ·exact(World.putObj_heap_other (by omega)).trans h.dk
 ·exact World.putObj_heap_same (nI.1 h.lk).1
theorem bM{w:World}{base:Nat}{t:TypeId}{n k:Nat}{v:Value}{xs:List Value}(h:w.ownsRow base t n v k xs){g:Nat}(F:v.ownBlock=some g):g<w.heap.size:=by
 rcases h.2 with⟨rfl,_⟩|⟨H,cap,I,rfl,_,G,_⟩
 ·cases F
 ·cases F
  exact(nI.1 G).1
theorem E4.appended{w A F:World}{L:List Sp}{st:Loop}(h:E4 w A L st){v G:Value}{O:Obj}{s:Sp}(Q:Boxed A (w.heap.size+1) 100 v)(I:A.ownsRow w.heap.size 104 2 v L.length (Dp L))
 (R:F.ownsRow w.heap.size 104 2 G (L.length+1) (Dp L++[pO s.b s.p,iN s.ly])) (J:(A.alloc O).grownBy F v.ownBlock):
 Boxed F (w.heap.size+1) 100 v∧E4 w (F.setCell (aD (w.heap.size+1) 0) G) (L++[s]) st∧Below w.heap.size A (F.setCell (aD (w.heap.size+1) 0) G)∧∀k,k<A.heap.size→k≠w.heap.size+1→v.ownBlock≠some k→(F.setCell (aD (w.heap.size+1) 0) G).heap[k]? =A.heap[k]?:=by
 obtain⟨T,a2,a3,a4,a5⟩:=Q.appended (by decide) I h.low.size (by omega) R J;have H:∀k,k<A.heap.size→k≠w.heap.size+1→v.ownBlock≠some k→(F.setCell (aD (w.heap.size+1) 0) G).heap[k]? =A.heap[k]?:=fun k H V Y=>by
  rw[re _ _ _ k V,J.block k (by rw[nv];omega) (fun e=>Y e.symm),rR _ _ _ H]
 refine⟨T,⟨h.low.trans a5,?_,⟨G,a2,?_⟩,a4.same _ _ h.dk rfl,a4.same _ _ h.lk rfl⟩,a5,H⟩
 ·exact(H _ h.rb.lt (by omega) (h.rb.not_row (by decide) I).symm).trans h.rb
 ·rw[M3,nK]
  exact a3
theorem Tryz.infoSp:(prog.info? 104).map (fun i=>(i.zero,i.size,i.bytes))=some (some (.agg #[.pointer none,.int .i64 0]),2,16):=by kernel_rfl
theorem Mw(w:World)(x y:Value)(t:TypeId):∀j u,[x,y][j]? =some u→(w.alloc (.cells #[x,y] t)).cell? (((aD w.heap.size 0):Addr).add j)=some u:=by
 intro j u F;match j,F with
 |0,F=>simp at F;subst F;exact aC
 |1,F=>simp at F;subst F;exact aC
attribute [local go_sem] Oper.semAt_some
structure Ml (w W:World) (L:List Sp) (st:Loop):Prop where
 low:Below w.heap.size w W
 rb:∃a cap,Boxed W w.heap.size 100 (.slice a L.length cap)∧L.length≤cap∧cap≤9223372036854775807∧Dx W.cell? a L∧Jv w.heap.size a L
 dk:W.heap[w.heap.size+1+1]? =some (.deferred (some []))
 lk:W.heap[w.heap.size+1+1+1]? =some (.loop st)
theorem Ml.make{w A:World}{L:List Sp}{st:Loop}(h:E4 w A L st)(s:Sp)(H:Loop):
 ((A.alloc (.cells #[pO s.b s.p,iN s.ly] 104)).setCell (aD w.heap.size 0) (sL A.heap.size 0 1 1)).heap[w.heap.size+1+1+1]? =some (.loop st)∧
 Ml w (((A.alloc (.cells #[pO s.b s.p,iN s.ly] 104)).setCell (aD w.heap.size 0) (sL A.heap.size 0 1 1)).putObj (w.heap.size+1+1+1) (.loop H)) [s] H:=by
 have Q:Below A.heap.size A (A.alloc (.cells #[pO s.b s.p,iN s.ly] 104)):=bN;have F:=h.keep Q;have T:=(nI.1 h.lk).1;have I:((A.alloc (.cells #[pO s.b s.p,iN s.ly] 104)).setCell (aD w.heap.size 0) (sL A.heap.size 0 1 1)).heap[w.heap.size+1+1+1]? =some (.loop st):=by
  rw[re _ _ _ _ (by show w.heap.size+1+1+1≠w.heap.size;omega)];exact F.lk
 have R:((A.alloc (.cells #[pO s.b s.p,iN s.ly] 104)).setCell (aD w.heap.size 0) (sL A.heap.size 0 1 1)).heap[w.heap.size+1+1]? =some (.deferred (some [])):=by
  rw[re _ _ _ _ (by show w.heap.size+1+1≠w.heap.size;omega)];exact F.dk
 have J:∀j,(((A.alloc (.cells #[pO s.b s.p,iN s.ly] 104)).setCell (aD w.heap.size 0) (sL A.heap.size 0 1 1)).putObj (w.heap.size+1+1+1) (.loop H)).cell? (aD A.heap.size j)=(A.alloc (.cells #[pO s.b s.p,iN s.ly] 104)).cell? (aD A.heap.size j):=fun j=>nR (by
  rw[World.putObj_heap_other (by show A.heap.size≠_;omega),re _ _ _ _ (by show A.heap.size≠w.heap.size;omega)])
 obtain⟨c0,c1⟩:=GA A (pO s.b s.p) (iN s.ly) 104;refine⟨I,⟨?_,⟨some (aD A.heap.size 0),1,FY (F.rb.set _) I _,nl _,by omega,.inr ⟨A.heap.size,0,rfl,fun i d G=>?_⟩,.inr ⟨A.heap.size,0,rfl,h.low.size⟩⟩,(World.putObj_heap_other (by omega)).trans R,World.putObj_heap_same (nI.1 I).1⟩⟩
 ·have O:Below w.heap.size w ((A.alloc (.cells #[pO s.b s.p,iN s.ly] 104)).setCell (aD w.heap.size 0) (sL A.heap.size 0 1 1)):=F.low.setCell (p:=(aD w.heap.size 0)) (nl _) _
  exact O.trans (Fr O.size (by omega) _)
 ·match i,G with
  |0,G=>simp at G;subst G;exact⟨(J 0).trans c0,(J 1).trans c1⟩
theorem Oh{A:World}{l:Nat}{o:Obj}(F:A.heap[l]? =some o)(G:o.isCells=false)(H:Obj):AR A.cell? (A.putObj l H).cell?:=fun _ _ h=>cell_kept h (grownBy_putObj' _ _ _) (fun r e=>by cases e;exact⟨_,F,G⟩)
theorem Dx.on{c F:AJ}{a:Option Addr}{D:List Sp}(h:Dx c a D)(hb:AR c F):Dx F a D:=by
 rcases h with e|⟨b,H,e,h⟩
 ·exact .inl e
 ·exact .inr ⟨b,H,e,fun i d G=>⟨hb _ _ (h i d G).1,hb _ _ (h i d G).2⟩⟩
theorem MY{w F:World}{L:List Sp}{G:Act}(T:G.tmps[2]? =some (.pointer (some ⟨w.heap.size,0,none⟩)))(hd:G.defers=[{target:=.collected (w.heap.size+1+1),args:=#[]}])(H:F.heap[w.heap.size+1+1]? =some (.deferred (some []))){a:Option Addr}{cap:Nat}(hb:F.cell? ⟨w.heap.size,0,none⟩=some (.slice a L.length cap))(V:L.length≤cap)(Y:cap≤9223372036854775807)(Z:Dx F.cell? a L)(aa:Jv w.heap.size a L)(I:Below w.heap.size w F):
 bodyPostM Fence.wide 1 prog Tryz.f51 (fun e w'=>∃a cap,e=.returned (.slice a L.length cap)∧L.length≤cap∧cap≤9223372036854775807∧Dx w'.cell? a L∧Jv w.heap.size a L∧Below w.heap.size w w') .ret G F:=by
 show LeavesInM Fence.wide 1 prog Tryz.f51 G.tmps _ G.defers .returning F;rw[hd];refine⟨by simp,.inl ⟨_,_,rfl,run_takeDeferred H,?_⟩⟩;have J:=Oh H rfl (.deferred none);have O:=J _ _ hb;have Q:=Z.on J;have R:=I.trans (Fr I.size (by omega) (.deferred none) (l:=w.heap.size+1+1));generalize F.putObj (w.heap.size+1+1) (.deferred none)=ab at O Q R⊢;exact⟨.slice a L.length cap,by simp[results,results51,go_sem,T,O],a,cap,rfl,V,Y,Q,aa,R⟩
theorem MX{w:World}{gf:Nat}{lb:Array Value}{F:List Sp}(bH:Mo gf lb w.heap.size w F)(cl:∀args w,(callFunc gf args).run prog w=.ok (.enter gf args) w)(bY:∀s∈F,Cx w.cell? s)(dx:F.length≤1000):
 Calls prog 51 #[.func (.func gf) #[] lb] w fun e w'=>∃a cap,e=.returned (.slice a (Bp F).length cap)∧(Bp F).length≤cap∧cap≤9223372036854775807∧Dx w'.cell? a (Bp F)∧Jv w.heap.size a (Bp F)∧Below w.heap.size w w':=by
 obtain⟨co,cp,cq,cr,cu⟩:=info_parts Tryz.infoSp;refine(rX (n:=1)).1 ?_;refine callsIn_of_wp_marks func51 rfl trivial ?_ rfl;simp only[ntmps51,List.size_toArray,n3,nQ,Nat.reduceAdd,Nat.reduceSub,r9,r8,List.push_toArray,List.append_toArray,ru,n9];gi_wp2_with fail
 have be:Below w.heap.size w ((w.alloc (.cells #[nL] 100)).alloc (.cells #[nL] 100)):=bN.alloc (by rw[nv];omega) _;have ak:((w.alloc (.cells #[nL] 100)).alloc (.cells #[nL] 100)).heap.size=w.heap.size+1+1:=by rw[nv,nv]
 have bf:Boxed ((w.alloc (.cells #[nL] 100)).alloc (.cells #[nL] 100)) w.heap.size 100 nL:=(Boxed.new w _ _).alloc _;have bg:Boxed ((w.alloc (.cells #[nL] 100)).alloc (.cells #[nL] 100)) (w.heap.size+1) 100 nL:=by
  have:=Boxed.new (w.alloc (.cells #[nL] 100)) 100 nL;rwa [nv]at this
 generalize(w.alloc (.cells #[nL] 100)).alloc (.cells #[nL] 100)=dy at be ak bf bg⊢;refine Ns (gf:=gf) (lb:=lb) rfl cl ?_;intro fn rec cx b0 R b1 bi bk;rw[ak]at R b1 bi bk⊢;have ao:E4 w b0 [] (rec .ready none):=⟨be.trans (R.mono (by omega)),En bf (by rw[ak];exact R),⟨_,En bg (by rw[ak];exact R),rB _ _ _ _⟩,bk,bi⟩;clear be R b1 bi bk bf bg ak;refine(bH (w.heap.size+1+1+1) (fun i W=>i≤F.length∧Ki (F.take i)∧E4 w W (F.take i) (rec .ready none)) (fun W=>E4 w W (Bp F) (rec .done (some (.exit 0)))∨Ml w W (Bp F) (rec .done (some .ret))) b0 ao.low (fun i A B h hb=>⟨h.1,h.2.1,h.2.2.keep hb⟩) ?rounds ⟨nM _,fun s cA=>(by cases cA),ao⟩).mono ?after
 case rounds=>
  rintro i s A ap ⟨dz,T,Q⟩;have b2:=nD ap;have cB:=(nw.1 ap).1;have az:Hid (F=F.take i++s::F.drop (i+1)):=by
   show F=_;have e:=nN cB;rw[(nw.1 ap).2]at e;rw[←e,ry]
  have a7:Hid (F.take (i+1)=F.take i++[s]):=by show _=_;rw[rv,ap];rfl
  have bl:(F.take i).length=i:=by rw[rF];omega
  have bn:=bY s b2;obtain⟨v,V,I⟩:=Q.sb;have bo:∀g,v.ownBlock=some g→g<A.heap.size:=fun g c3=>bM I c3;obtain⟨ad,vc,rfl,_⟩:=Jc I
  rw[bl]at bo V I;have bp:Hid _:=bl;clear bl;rw[show s.v=.agg #[pO s.b s.p,iN s.ly]from rfl];refine M7 cx Q.lk rfl ?_;gi_wp2
  refine⟨(Q.keep bN).lk,?_⟩;have Y:Below A.heap.size A (A.alloc (.cells #[pO s.b s.p,iN s.ly] 104)):=bN;have G:=(Q.keep Y).put (rec .busy none);have d0:=(nI.1 Q.lk).1;have b3:Below w.heap.size A ((A.alloc (.cells #[pO s.b s.p,iN s.ly] 104)).putObj (w.heap.size+1+1+1) (.loop (rec .busy none))):=(Y.mono (by omega)).trans (Fr (by rw[nv];omega) (by omega) _);have a8:=FY (En V Y) (Q.keep Y).lk (.loop (rec .busy none));have ba:=ownsRow_putObj (GR I Y) (.loop (rec .busy none)) (Q.keep Y).lk rfl;obtain⟨c0,c1⟩:=GA A (pO s.b s.p) (iN s.ly) 104;have b4:∀j,((A.alloc (.cells #[pO s.b s.p,iN s.ly] 104)).putObj (w.heap.size+1+1+1) (.loop (rec .busy none))).cell? (aD A.heap.size j)=(A.alloc (.cells #[pO s.b s.p,iN s.ly] 104)).cell? (aD A.heap.size j):=fun j=>nR (World.putObj_heap_other (by show A.heap.size≠_;omega));rw[←b4]at c0 c1
  have b5:A.heap.size<((A.alloc (.cells #[pO s.b s.p,iN s.ly] 104)).putObj (w.heap.size+1+1+1) (.loop (rec .busy none))).heap.size:=by rw[World.putObj_size,nv];omega
  generalize(A.alloc (.cells #[pO s.b s.p,iN s.ly] 104)).putObj (w.heap.size+1+1+1) (.loop (rec .busy none))=bb at G b3 c0 c1 a8 ba b5⊢;clear b4 Y V I;obtain⟨d1,c4,_⟩:Ce bb s.b s.p (iN s.x.kind)∧Ce bb s.b (s.p+4) (.bool s.x.opq)∧True:=by
   have Z:=bn.1.below G.low;obtain⟨b,p,ly,⟨k,m,u,g,o,nh,d,ks⟩,h⟩:=s;exact⟨Z.split.1,Z.split.2.1,trivial⟩
  have c5:s.b<w.heap.size:=by
   have Z:=bn.1;obtain⟨b,p,ly,⟨k,m,u,g,o,nh,d,ks⟩,h⟩:=s;exact bL Z.split.1
  have b6:=a8.cell;have bs:=G.rb.cell;have bu:=G.rb.frozen;generalize aa:s.x.kind=k at*;generalize b7:s.x.opq=o at*;by_cases Z:k=1
  ·subst Z
   by_cases ao:i=0
   ·subst ao
    have d2:=(G.rb.alloc (.cells #[pO s.b s.p,iN s.ly] 104)).cell;have d3:=(G.rb.alloc (.cells #[pO s.b s.p,iN s.ly] 104)).frozen;have ab:Hid (Bp F=[s]):=by
     show Bp F=[s];rw[az.out,List.take_zero,ru,Bp,nC aa]
    obtain⟨c6,c8⟩:=Ml.make G s (rec .done (some .ret));clear bs bu;gi_wp2_with fail
    exact⟨c6,.inr ⟨rfl,.inr (by rw[ab.out];exact c8)⟩⟩
   ·have ab:Hid (Bp F=F.take i):=by
     show Bp F=_;conv=>lhs;rw[az.out]
     rw[NZ T (fun e=>ao (by have:=bp.out;rw[e]at this;exact this.symm)),Er,nC (by rw[aa];decide),rQ]
    gi_wp2_with fail
    exact⟨G.lk,.inr ⟨rfl,.inl (by rw[ab.out];exact G.put _)⟩⟩
  by_cases b9:k=2;rotate_left
  ·have ab:Hid (Bp F=F.take i):=by
    show Bp F=_;conv=>lhs;rw[az.out]
    rw[Tk (by rw[aa];exact Z) _ _ T,Er,nC (by rw[aa];exact b9),rQ]
   gi_wp2_with fail
   exact⟨G.lk,.inr ⟨rfl,.inl (by rw[ab.out];exact G.put _)⟩⟩
  subst b9;have c9:Hid (o=true→Bp F=F.take (i+1)):=fun e=>by
   rw[a7.out];conv=>lhs;rw[az.out]
   rw[Tk (by rw[aa];decide) _ _ T,Er,nB (by rw[aa];simp),nC (by rw[b7];exact e)]
  have da:Hid (o=false→Ki (F.take (i+1))):=fun e t cb=>by
   rw[a7.out]at cb;rcases rd.1 cb with bd|bd
   ·exact T t bd
   ·rw[rj]at bd;rw[bd];exact⟨aa,by rw[b7];exact e⟩
  have db:Hid (∀O J,J.ownsRow w.heap.size 104 2 O (i+1) (Dp (F.take i)++[pO s.b s.p,iN s.ly])→(bb.alloc (.cells #[pO s.b s.p,iN s.ly] 104)).grownBy J (Value.slice ad i vc).ownBlock→
   ∃g cap,O=sL g 0 (i+1) cap∧Boxed J (w.heap.size+1) 100 (.slice ad i vc)∧E4 w (J.setCell (aD (w.heap.size+1) 0) O) (F.take (i+1)) (rec .busy none)∧Below w.heap.size A (J.setCell (aD (w.heap.size+1) 0) O)∧Ce (J.setCell (aD (w.heap.size+1) 0) O) A.heap.size 0 (pO s.b s.p)∧Ce (J.setCell (aD (w.heap.size+1) 0) O) s.b (s.p+4) (.bool o)):=fun O J q1 q2=>by
   obtain⟨g,cap,e⟩:=ownsRow_succ q1;have cf:=bp.out;obtain⟨dd,a2,a3,a4⟩:=G.appended (s:=s) a8 (by rw[cf];exact ba) (by rw[cf];exact q1) q2;rw[←a7.out]at a2;refine⟨g,cap,e,dd,a2,b3.trans a3,?_,?_⟩
   ·exact(nR (a:=(aD A.heap.size 0)) (a4 A.heap.size b5 (by omega) (fun e=>by have:=bo A.heap.size e;omega))).trans c0
   ·exact(a3.cell (p:=(aD s.b (s.p+4))) c5).trans c4
  have de:=ba;clear az a7 ba a8 bo bp Q bY bH bn b2 ap;gi_wp2_with (gi_at_builtin;refine wpListIn_append_own _ rfl _ _ 100 rfl w.heap.size 104 co (.agg #[.pointer none,iN 0]) 2 16 underlying100 cp cq cr cu rfl (by decide) _ _ _ rfl (de.alloc _) (aD bb.heap.size 0) 1 1 [pO s.b s.p,iN s.ly] rfl rfl (Mw _ _ _ _) (by simp[Value.oneCell']) (by simp[maxLen];omega) (by omega) (by have:=G.low.size;simp;omega) ?_;intro O J dg dj _;obtain⟨d4,d5,rfl,cg,a1,R,d6,d7⟩:=db.out O J dg dj;have d8:=cg.cell;have d9:=cg.frozen)
  ·have dk:o=true:=by assumption
   exact⟨a1.lk,.inr ⟨rfl,.inl (by rw[c9.out dk];exact a1.put _)⟩⟩
  ·have dm:o=false:=by first|assumption|(simpa using‹¬o=true›)
   exact⟨a1.lk,.inl ⟨rfl,⟨by omega,da.out dm,a1.put _⟩,R.trans (Fr (nO a1.low.size (nl _)) (by omega) _)⟩⟩
 case after=>
  rintro e W2 ⟨⟨v,rfl⟩,h⟩;refine⟨⟨_,rfl⟩,?_⟩;rcases h with⟨_,T,G⟩|G|G
  ·rw[List.take_length]at T G
   have ab:Hid (Bp F=F):=by
    show Bp F=F;cases F with
    |nil=>rfl
    |cons s r=>have:=NZ T (by simp) [];rwa [rQ,Er,rQ]at this
   left
   have bv:E4 w W2 (Bp F) (rec .ready none):=by rw[ab.out];exact G
   refine⟨G.lk,?_⟩;have H:=bv.put (rec .exhausted none);generalize W2.putObj (w.heap.size+1+1+1) (.loop (rec .exhausted none))=bx at H⊢;obtain⟨v,V,I⟩:=H.sb;obtain⟨ad,vc,rfl,bA,bB,dn,bC⟩:=Jc I;have b6:=V.cell;have bs:=H.rb.cell;have bu:=H.rb.frozen;gi_wp2
   have bF:=I.kept (grownBy_setCell' bx w.heap.size (.slice ad (Bp F).length vc)) (.inr (H.rb.not_row (by decide) I).symm);obtain⟨dp,dr,a6,_,_,bG,_⟩:=Jc bF;simp only[ro,true_and]at a6;obtain⟨rfl,rfl⟩:=a6;exact MY rfl rfl ((re _ _ _ _ (by show w.heap.size+1+1≠w.heap.size;omega)).trans H.dk) (H.rb.set _).cell bA bB bG bC (H.low.setCell (p:=(aD w.heap.size 0)) (nl _) _)
  ·right
   refine⟨.exit 0,G.lk,?_⟩;have bv:=G;have H:=bv.put (rec .exhausted (some (.exit 0)));generalize W2.putObj (w.heap.size+1+1+1) (.loop (rec .exhausted (some (.exit 0))))=bx at H⊢;obtain⟨v,V,I⟩:=H.sb;obtain⟨ad,vc,rfl,bA,bB,dn,bC⟩:=Jc I;have b6:=V.cell;have bs:=H.rb.cell;have bu:=H.rb.frozen;gi_wp2
   have bF:=I.kept (grownBy_setCell' bx w.heap.size (.slice ad (Bp F).length vc)) (.inr (H.rb.not_row (by decide) I).symm);obtain⟨dp,dr,a6,_,_,bG,_⟩:=Jc bF;simp only[ro,true_and]at a6;obtain⟨rfl,rfl⟩:=a6;exact MY rfl rfl ((re _ _ _ _ (by show w.heap.size+1+1≠w.heap.size;omega)).trans H.dk) (H.rb.set _).cell bA bB bG bC (H.low.setCell (p:=(aD w.heap.size 0)) (nl _) _)
  ·right
   refine⟨.ret,G.lk,?_⟩;obtain⟨ea,eb,q1,q2,ds,q4,q5⟩:=G.rb;have ch:=Oh G.lk rfl (.loop (rec .exhausted (some .ret)));have du:=G.low.trans (Fr G.low.size (by omega) (.loop (rec .exhausted (some .ret))) (l:=w.heap.size+1+1+1));have dw:(W2.putObj (w.heap.size+1+1+1) (.loop (rec .exhausted (some .ret)))).heap[w.heap.size+1+1]? =some (.deferred (some [])):=(World.putObj_heap_other (by omega)).trans G.dk;gi_wp2
   exact MY rfl rfl dw (ch _ _ q1.cell) q2 ds (q4.on ch) q5 du
theorem Cx.on{c F:AJ}{s:Sp}(h:Cx c s)(hb:AR c F):Cx F s:=⟨h.1.on hb,h.2.on hb⟩
theorem KO.on{c F:AJ}{nm:BA}{d:Sp}{o:Option Sp}(h:KO c nm d o)(hb:AR c F):KO F nm d o:=by
 rcases h with h|⟨b,G,j,y,H,I,J,O,Q,R,T,V,Y⟩
 ·exact .inl h
 ·exact .inr ⟨b,G,j,y,H,I,J,O,Q,R,T,V,Y.on hb⟩
def EP(c:AJ)(v:Value)(l:List (Nd×Nat)):Prop:=∃(a:Option Addr) (cap:Nat) (D:List Sp),v=.slice a D.length cap∧D.length≤cap∧cap≤9223372036854775807∧Dx c a D∧(∀s∈D,Cx c s)∧D.map Sp.pr=l
theorem EP.on{c F:AJ}{v:Value}{l:List (Nd×Nat)}(h:EP c v l)(hb:AR c F):EP F v l:=by
 obtain⟨a,cap,D,G,H,I,J,O,Q⟩:=h;exact⟨a,cap,D,G,H,I,J.on hb,fun s R=>(O s R).on hb,Q⟩
def Ch(c:AJ)(a:Option Addr)(xs:List Nd):Prop:=xs=[]∨∃b F,a=some ⟨b,F,none⟩∧∃f:Nat→Hd,∀i x,xs[i]? =some x→Bj c b (F+i*8) x (f i)∧Ah c x (f i)
theorem Ch.on{c F:AJ}{a:Option Addr}{xs:List Nd}(h:Ch c a xs)(hb:AR c F):Ch F a xs:=by
 rcases h with h|⟨b,I,J,f,G⟩
 ·exact .inl h
 ·exact .inr ⟨b,I,J,f,fun i x H=>⟨(G i x H).1.on hb,(G i x H).2.on hb⟩⟩
def BD(xs:List Nd):List (Nd×Nat):=xs.zipIdx
def DC(l:List (Nd×Nat)):Prop:=l.length≤1000∧∀q∈l,cnt q.1≤1000
theorem ZI(x:Nd):x.kids.length<cnt x:=by
 obtain⟨k,m,u,g,o,nh,d,ks⟩:=x;have:=Hs ks;rw[cnt];show ks.length<_;omega
theorem DC.kid{l:List (Nd×Nat)}(h:DC l)(nm:BA):DC (Bc nm l):=by
 refine⟨nO (List.length_filterMap_le _ _) h.1,fun q H=>?_⟩;obtain⟨p,I,e⟩:=rC.1 H;obtain⟨y,F,rfl⟩:=nY.1 e;have O:=h.2 p I;unfold CV at F;split at F
 ·cases F
 ·obtain⟨G,J,rfl⟩:=nY.1 F
  have Q:cnt G.2≤cntL p.1.kids:=by
   obtain⟨n,z⟩:=G;exact Iw J
  have R:cntL p.1.kids<cnt p.1:=by
   obtain⟨⟨k,m,u,g,o,nh,d,ks⟩,ly⟩:=p;show cntL ks<cnt (.mk k m u g o nh d ks);rw[cnt];omega
  show cnt G.2≤1000;omega
theorem Sn:∀(l:List (Nd×Nat)) q,q∈DZ l→q∈l
 |[],q,h=>by cases h
 |t::r,q,h=>by
  rw[DZ]at h;split at h
  ·cases h
  split at h
  ·rw[rj]at h;rw[h];exact nJ ..
  ·rcases nX.1 h with e|e
   ·rw[e];exact nJ ..
   ·exact n2 _ (Sn r q e)
theorem Hx(l:List (Nd×Nat))(q:Nd×Nat)(h:q∈A8 l):q∈l:=by
 cases l with
 |nil=>cases h
 |cons t r=>
  rw[A8]at h;split at h
  ·rw[rj]at h;rw[h];exact nJ ..
  ·exact Sn _ _ h
theorem Rq:∀l:List (Nd×Nat),(DZ l).length≤l.length
 |[]=>nl _
 |t::r=>by
  rw[DZ];split
  ·exact nM _
  split
  ·simp
  ·simp;exact Rq r
theorem bJ(l:List (Nd×Nat)):(A8 l).length≤l.length:=by
 cases l with
 |nil=>exact nl _
 |cons t r=>
  rw[A8];split
  ·simp
  ·exact Rq _
theorem DC.sh{l:List (Nd×Nat)}(h:DC l):DC (A8 l):=⟨nO (bJ l) h.1,fun q F=>h.2 q (Hx l q F)⟩
theorem UC{A B:World}{S:Nat→Bool}{n₀:Nat}{a:Option Addr}{cap:Nat}{F:List Sp}(J:∀k,S k=true→k<n₀)(O:(Bp F).length≤cap)(Q:cap≤9223372036854775807)(H:Dx B.cell? a (Bp F))(R:Jv n₀ a (Bp F))(T:∀s∈F,Cx (Ag A.cell? S) s)(V:AR (Ag A.cell? S) (Ag B.cell? S)):EP (Ag B.cell? S) (.slice a (Bp F).length cap) (A8 (F.map Sp.pr)):=by
 refine⟨a,cap,Bp F,rfl,O,Q,?_,fun s Y=>(T s (SV F s Y)).on V,Oo F⟩;rcases H with e|⟨b,I,e,H⟩
 ·exact .inl e
 ·rcases R with G|⟨g,aa,G,ab⟩
  ·exact .inl G
  ·rw[e]at G
   simp only[nU,rc]at G;refine .inr ⟨b,I,e,fun i d Z=>?_⟩;have hb:S b=false:=by
    cases hh:S b with
    |false=>rfl
    |true=>have:=J b hh;omega
   rw[Co (show S ((aD b (I+i*2)):Addr).block=false from hb),Co (show S ((aD b (I+i*2+1)):Addr).block=false from hb)];exact H i d Z
theorem JJ(w:World)(a:Option Addr)(n cap:Nat)(nm:BA):
 Calls prog 52 #[.slice a n cap,.string nm] w fun e w'=>e=.returned (.func (.func 101) #[] #[pO w.heap.size 0,pO (w.heap.size+1) 0])∧w'=(w.alloc (.cells #[.slice a n cap] 100)).alloc (.cells #[.string nm] 9):=by
 go_enter func52,ntmps52;go_wp2;go_ret;exact⟨rfl,rfl⟩
theorem WQ(w:World)(a:Option Addr)(n cap:Nat):
 Calls prog 143 #[.slice a n cap] w fun e w'=>e=.returned (.func (.func 168) #[] #[pO w.heap.size 0])∧w'=w.alloc (.cells #[.slice a n cap] 30):=by
 go_enter func143,ntmps143;go_wp2;go_ret;exact⟨rfl,rfl⟩
theorem JL{A w:World}{S:Nat→Bool}(ao:∀k,S k=true→k<A.heap.size){a:Option Addr}{cap:Nat}{D:List Sp}(nm:BA)(ap:Dx (Ag A.cell? S) a D)(az:∀s∈D,Cx (Ag A.cell? S) s)(T:DC (D.map Sp.pr))(O:w=(A.alloc (.cells #[.slice a D.length cap] 100)).alloc (.cells #[.string nm] 9)):
 Calls prog 51 #[.func (.func 101) #[] #[pO A.heap.size 0,pO (A.heap.size+1) 0]] w fun e B=>∃v,e=.returned v∧EP (Ag B.cell? S) v (A8 (Bc nm (D.map Sp.pr)))∧Below A.heap.size A B:=by
 have G:Below A.heap.size A w:=by rw[O];exact bN.alloc (by rw[nv];omega) _
 have H:=Aj G;have I:=Ci A.cell? S;have V:∀(i:Nat) d,D[i]? =some d→Cx (Ag A.cell? S) d:=fun i d F=>az d (nD F);obtain⟨J,Q⟩:=bW V nm
 have Y:D.length≤1000:=by have:=T.1;rwa [rk]at this
 have c0:Ce w A.heap.size 0 (.slice a D.length cap):=by
  rw[O];exact Aj bN _ _ aC
 have c1:Ce w (A.heap.size+1) 0 (.string nm):=by
  rw[O];have h:Ce ((A.alloc (.cells #[.slice a D.length cap] 100)).alloc (.cells #[.string nm] 9)) ((A.alloc (.cells #[.slice a D.length cap] 100)).heap.size) 0 (.string nm):=aC;rwa [nv]at h
 have a1:=VX A.heap.size (A.heap.size+1) w.heap.size a cap D nm J w rfl c0 c1 Y (fun d hd=>by
  have Z:=T.2 d.pr (rW hd);have aa:=ZI d.x;have ab:cnt d.pr.1=cnt d.x:=rfl;omega) ((ap.on I).on H) (fun i d F=>((V i d F).on I).on H) (fun i d F=>((Q i d F).on I).on H)
 have ad:∀s∈(List.range D.length).filterMap J,Cx (Ag A.cell? S) s:=fun s R=>by
  obtain⟨i,F,e⟩:=rC.1 R;have a6:=List.mem_range.1 F;exact(Q i _ (np a6)).at s e
 have a7:((List.range D.length).filterMap J).map Sp.pr=Bc nm (D.map Sp.pr):=PQ D J _ fun i d F=>(Q i d F).pr;refine(MX a1 (enters_of func101 (by kernel_rfl) rfl) (fun s R=>((ad s R).on I).on H) (nO (List.length_filterMap_le _ _) (by rw[List.length_range];exact Y))).mono ?_
 rintro e B ⟨bd,be,rfl,Z,aa,ab,a8,ba⟩;have ak:=G.trans (ba.mono G.size);refine⟨_,rfl,?_,ak⟩;rw[←a7];exact UC (n₀:=w.heap.size) (fun k bb=>nG (ao k bb) G.size) Z aa ab a8 ad (CQ ak)
theorem WP{A w:World}{S:Nat→Bool}(T:∀k,S k=true→k<A.heap.size){a:Option Addr}{cap:Nat}{xs:List Nd}(hx:Ch (Ag A.cell? S) a xs)(a7:xs.length≤1000)(O:w=A.alloc (.cells #[.slice a xs.length cap] 30)):
 Calls prog 51 #[.func (.func 168) #[] #[pO A.heap.size 0]] w fun e B=>∃v,e=.returned v∧EP (Ag B.cell? S) v (A8 (BD xs))∧Below A.heap.size A B:=by
 have J:Below A.heap.size A w:=by rw[O];exact bN
 have V:=Aj J;have Y:=Ci A.cell? S;have c0:Ce w A.heap.size 0 (.slice a xs.length cap):=by rw[O];exact aC
 obtain⟨G,Z,aa,t3,t4⟩:∃G:List Sp,G.length=xs.length∧G.map Sp.pr=BD xs∧(∀s∈G,Cx (Ag A.cell? S) s)∧∀i s,G[i]? =some s→∃b H,a=some (aD b H)∧s.b=b∧s.p=H+i*8∧s.ly=i:=by
  rcases hx with rfl|⟨b,H,e,f,ab⟩
  ·exact⟨[],rfl,rfl,fun s I=>(by cases I),fun i s F=>by simp at F⟩
  ·refine⟨xs.zipIdx.map fun q=>⟨b,H+q.2*8,q.2,q.1,f q.2⟩,by simp,?_,fun s I=>?_,fun i s F=>?_⟩
   ·rw[r4];exact List.map_id' _
   ·obtain⟨q,ad,rfl⟩:=rx.1 I
    have Q:=List.mem_zipIdx_iff_getElem?.1 ad;exact ab q.2 q.1 Q
   ·rw[n4,List.getElem?_zipIdx]at F
    cases hx:xs[i]? with
    |none=>rw[hx]at F;cases F
    |some x=>
     rw[hx]at F;simp only[r0,nU]at F;subst F;exact⟨b,H,e,rfl,by simp,by simp⟩
 have ak:=VY A.heap.size w.heap.size a cap G w (by rw[O,nv];omega) (nl _) (by rw[Z];exact c0) (by omega) t4;refine(MX ak (enters_of func168 (by kernel_rfl) rfl) (fun s I=>((t3 s I).on Y).on V) (by omega)).mono ?_;rintro e B ⟨a8,ba,rfl,Q,ao,ap,az,a1⟩;have R:=J.trans (a1.mono J.size);refine⟨_,rfl,?_,R⟩;rw[←aa];exact UC (n₀:=w.heap.size) (fun k a6=>nG (T k a6) J.size) Q ao ap az t3 (CQ R)
end Go.Proofs.YtgppjbhaimmlpaaGreatDoor
namespace Go.Proofs.YtgppjbhaimmlpaaGreatDoor
open Go.RowKit Go.Proofs.Tryz
theorem PO(n:Nat):(Builtin.zeroCells zK.cells n).size=n*9:=by rw[size_zeroCells];rfl
theorem XY(n:Nat)(w:World)(aa:n≤1000):Calls prog 182 #[.slice none 0 0,iN n] w fun e w'=>(∃v,e=.returned v∧w'.ownsRow w.heap.size 73 9 v 0 (BH []))∧Below w.heap.size w w':=by
 by_cases V:n=0
 ·subst V
  go_enter func182,ntmps182;go_wp2;go_ret;exact⟨⟨_,rfl,rB _ _ _ _⟩,nt _ _⟩
 obtain⟨Y,J,O,Q,R⟩:=Eb Tryz.infoK;have F:∀G,(Builtin.append_ #[48,3] G #[nL,iN n]).run prog w=.ok (sL w.heap.size 0 n (grownCap w n 0 73)) (w.drew.alloc (.cells (Builtin.zeroCells zK.cells n++Builtin.zeroCells zK.cells (grownCap w n 0 73-n)) 73)):=fun G=>Lib.run_append_nil_zeros w 48 3 G 73 Y _ .i64 .i64 underlying48 underlying3 J O n (by omega) (by rw[Q];decide) (by omega) (by rw[R];omega);have Z:=grownCap_ge w n 0 73
 have H:grownCap w n 0 73≤maxLen:=grownCap_le_maxLen w n 0 73 (by unfold maxLen;omega)
 have I:(w.drew.alloc (.cells (Builtin.zeroCells zK.cells n++Builtin.zeroCells zK.cells (grownCap w n 0 73-n)) 73)).ownsRow w.heap.size 73 9 (sL w.heap.size 0 0 (grownCap w n 0 73)) 0 []:=
  World.ownsRow_made w.drew _ _ (nl _) H (by rw[Array.size_append,PO,PO];omega)
 have T:Below w.heap.size w (w.drew.alloc (.cells (Builtin.zeroCells zK.cells n++Builtin.zeroCells zK.cells (grownCap w n 0 73-n)) 73)):=(rz (nt _ w) 1).alloc (nl _) _;generalize w.drew.alloc (.cells (Builtin.zeroCells zK.cells n++Builtin.zeroCells zK.cells (grownCap w n 0 73-n)) 73)=ab at F I T;generalize grownCap w n 0 73=c at F Z H I;have ad:decide (0<n)=true:=nE (by omega);have ak:=nE (by omega);unfold maxLen at H;clear J O Q R;go_enter func182,ntmps182;go_wp2_with (at_builtin;refine Lib.wpList_append_run _ rfl _ _ _ _ rfl _ _ rfl rfl _ _ (F _) ?_)
 go_wp2;go_ret;exact⟨⟨_,rfl,I⟩,T⟩
structure Pt where
 a:Option Addr
 c:Nat
 l:BU
def C9:List Pt→BU
 |[]=>[]
 |p::ps=>p.l++C9 ps
theorem Mu:∀A B:List Pt,C9 (A++B)=C9 A++C9 B
 |[],_=>rfl
 |p::A,B=>by simp[C9,Mu A B]
theorem PV{F:List Pt}{k:Nat}{p:Pt}(h:F[k]? =some p):C9 (F.take (k+1))=C9 (F.take k)++p.l:=by
 rw[rv,h,Mu];simp[C9]
theorem Y7(F:List Pt)(k:Nat):(C9 (F.take k)).length≤(C9 F).length:=by
 have:=Mu (F.take k) (F.drop k);rw[ry]at this;rw[this,nK];omega
theorem PA(Q ao:Nat)(F:List Pt)(w:World)(bg:F.length≤10)(ap:(C9 F).length≤1000)
 (Y:∀i p,F[i]? =some p→w.cell? (aD Q i)=some (.slice p.a p.l.length p.c)∧Cu w.cell? p.a p.l):
 Calls prog 163 #[sL Q 0 F.length ao] w fun e w'=>(∃v,e=.returned v∧w'.ownsRow w.heap.size 73 9 v (C9 F).length (BH (C9 F)))∧Below w.heap.size w w':=by
 obtain⟨az,a1,a6,a7,a8⟩:=Eb Tryz.infoK;have Z:=hid Y;have aa:=hid (Y7 F);clear Y;go_enter func163,ntmps163;go_wp2;go_loop [11,3] (fun i s=>∃k:Nat,k≤F.length∧i=iN k∧s=iN (C9 (F.take k)).length) (fun i _=>F.length-(intOf i).toNat)
 case atStart=>exact⟨0,nM _,rfl,rfl⟩
 case round=>
  obtain⟨k,ba,rfl,rfl⟩:=hrel;by_cases R:k<F.length
  ·obtain⟨p,I⟩:∃p,F[k]? =some p:=⟨F[k],by simp[R]⟩
   obtain⟨q,_⟩:=Z.out k p I;have bb:(k:Int)<(F.length:Int):=by omega
   have J:=hid (PV I);have T:(C9 (F.take k)).length+p.l.length≤1000:=by
    have:=aa.out (k+1);rw[J.out,nK]at this;omega
   have ab:Hid ((C9 (F.take (k+1))).length=(C9 (F.take k)).length+p.l.length):=by show _=_;rw[J.out,nK]
   clear I J;generalize(C9 (F.take k)).length=s at T ab⊢;go_wp2;go_round
   case rel=>exact⟨k+1,by omega,by go_num,by rw[ab.out];go_num⟩
   case measure=>simp[intOf];omega
  ·have O:F.take k=F:=n1 (by omega)
   rw[O];clear O;go_wp2_with fail
   refine(XY _ _ ap).mono ?_;rintro e bi ⟨⟨v,rfl,G⟩,H⟩;go_wp2;go_loopw [27,6] (fun i s wr=>∃k:Nat,k≤F.length∧i=iN k∧wr.ownsRow w.heap.size 73 9 s (C9 (F.take k)).length (BH (C9 (F.take k)))∧Below w.heap.size w wr) (fun i _ _=>F.length-(intOf i).toNat)
   case atStart=>exact⟨0,nM _,rfl,G,H⟩
   case round=>
    obtain⟨k,ba,rfl,G,H⟩:=hrel;by_cases R:k<F.length
    ·obtain⟨p,I⟩:∃p,F[k]? =some p:=⟨F[k],by simp[R]⟩
     obtain⟨q,ad⟩:=Z.out k p I;have bb:(k:Int)<(F.length:Int):=by omega
     have J:=hid (PV I);have T:(C9 (F.take k)).length+p.l.length≤1000:=by
      have:=aa.out (k+1);rw[J.out,nK]at this;omega
     have q2:Ce wr Q k (.slice p.a p.l.length p.c):=(H.cell (p:=(aD Q k)) (bL q)).trans q;have V:=H.size;have bd:=ad.on (Aj H);clear I q ad;generalize C9 (F.take k)=P at T J G⊢;go_wp2_with (at_builtin;refine Ea _ rfl (.tmp 31) (.tmp 32) 48 rfl w.heap.size 73 az zK 9 120 underlying48 a1 a6 a7 a8 rfl (by decide) _ P.length (BH P) rfl G p.a p.l.length p.c (BH p.l) rfl (Hl p.l) (PY bd) (Oi _) (by unfold maxLen;omega) (by omega) V ?_)
     intro bk bl be ak _;have bf:=H.grown ak V (fun q e=>(G.lt q e).1);clear ak G H V;go_wp2;go_roundw
     case rel=>exact⟨k+1,by omega,by go_num,by rw[J.out,nK,KD];exact be,bf⟩
     case measure=>simp[intOf];omega
    ·have O:F.take k=F:=n1 (by omega)
     rw[O]at G;clear O;go_wp2;go_ret;exact⟨⟨_,rfl,G⟩,H⟩
end Go.Proofs.YtgppjbhaimmlpaaGreatDoor
