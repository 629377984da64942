/- Part: Md Me Mf Mg Wn Wo. -/
import Derived.Test.YtchpdmjlicmdaaaGreatDoorMaX
set_option maxRecDepth 100000
set_option maxHeartbeats 16000000
namespace Go.Proofs.YtchpdmjlicmdaaaGreatDoor
open Go.RowKit Go.Shelf Go.Proofs.Tryz
variable {A B w:World}{G c:AR}{d s:Sp}{D L:List Sp}{nm:BA}{o:Option Sp}{base cap k l:Nat}{t:TypeId}{v:Value}{st:Loop}{a:Option Addr}{S:Nat->Bool}
attribute [local go_sem] Oper.semAt_some
theorem Kb{B:Nat}{a:World}(h:Below B a w)(n:Nat):Below B a<|w.drewN n:=⟨h.os,h.tape,h.output,h.size,h.block⟩
def KO(c:AR)(nm:BA)(d:Sp)(o:Option Sp):Prop:=
 (o=none/\JE nm d.x=-1/\Ez (λn=>decide (n=nm)) d.x.dirKs 0=-1)\/∃(b G j:Nat) (y:Nd) (H:Hd),o=some ⟨b,G+j*9+1,d.ly,y,H⟩/\d.x.kind=2/\d.h.ak=some (aD b G)/\JE nm d.x=j/\Ez (λn=>decide (n=nm)) d.x.dirKs 0=j/\d.x.kids[j]? =some (nm,y)/\j<d.x.kids.length/\C8 c ⟨b,G+j*9+1,d.ly,y,H⟩
theorem qQ(G:C8 c d)(nm:BA):∃o,KO c nm d o:=by
 rcases kC G nm with h|⟨b,H,j,y,I,h⟩
 .exact⟨none,.inl ⟨rfl,h⟩⟩
 .exact⟨some _,.inr ⟨b,H,j,y,I,rfl,h⟩⟩
theorem pz(H:∀(i:Nat) d,D[i]? =some d->C8 c d)(nm:BA):∃I:Nat->Option Sp,∀(i:Nat) d,D[i]? =some d->KO c nm d (I i):=by
 have G:∀i:Nat,∃o,∀d,D[i]? =some d->KO c nm d o:=λi=>by
  cases h:D[i]? with
  |none=>exact⟨none,λd hd=>by cases hd⟩
  |some d=>
   obtain⟨o,J⟩:=qQ (H i d h) nm;exact⟨o,λe O=>by cases O;exact J⟩
 exact⟨λi=>Classical.choose<|G i,λi d Z=>CA (G i) d Z⟩
def Ek(nm:BA)(x:Nd):Option Nd:=if JE nm x<0 then none else(x.kids[(JE nm x).toNat]?).map (·.2)
def BU(nm:BA)(l:List<|Nd×Nat):List<|Nd×Nat:=l.filterMap λq=>(Ek nm q.1).map λy=>(y,q.2)
theorem KO.pr(h:KO c nm d o):o.map Sp.pr=(Ek nm d.x).map λy=>(y,d.ly):=by cases h<;>grind [Ek,Sp.pr]
theorem KO.at(h:KO c nm d o):∀s,o=some s->C8 c s:=by cases h<;>grind
theorem UM:∀(D:List Sp) (G:Nat->Option Sp) (H:Nd×Nat->Option (Nd×Nat)),(∀i d,D[i]? =some d->(G i).map Sp.pr=H d.pr)->((List.range D.length).filterMap G).map Sp.pr=(D.map Sp.pr).filterMap H
 |[],G,H,_=>rfl
 |d::D,G,H,h=>by
  have I:=UM D (λi=>G<|i+1) H λi e J=>h (i+1) e (by simpa using J);have O:=h 0 d rfl
  have Z:List.filterMap G (List.map Nat.succ<|List.range D.length)=List.filterMap (λi=>G<|i+1) (List.range D.length):=by rw[List.filterMap_map];rfl
  rw[R5,List.range_succ_eq_map,CL,CB,CL,<-O,Z];cases G 0 with
  |none=>exact I
  |some s=>simp only[CB,tx];rw[I]
theorem mP(G:Nat->Option Sp)(N i:Nat)(H:i<N)(I:G i=some s):((List.range N).filterMap G)[((List.range i).filterMap G).length]? =some s:=by
 obtain⟨k,rfl⟩:∃k,N=(i+1)+k:=⟨N-(i+1),by omega⟩;simp_all [List.range_add]
theorem V6(G:Nat->Option Sp)(i:Nat):((List.range<|i+1).filterMap G).length=((List.range i).filterMap G).length+(if(G i).isSome then 1 else 0):=by grind [List.range_succ]
def Eh(c:AR)(a:Option Addr)(D:List Sp):Prop:=D=[]\/∃b G,a=some (aD b G)/\∀i d,D[i]? =some d->c (aD b<|G+i*2)=some (pO d.b d.p)/\c (aD b<|G+i*2+1)=some (iN d.ly)
theorem lu(J:C8 w.cell? d)(nm:BA)(G:Nat)(O:d.x.kids.length<=1000)(I:w.cell? (aD G 0)=some (.string nm)):
 Calls prog 196 #[if d.x.kind=2 then .slice d.h.ak d.x.kids.length d.h.ck else nL,.func (.func 197) #[] #[pO G 0]] w λe w'=>e=.returned (iN (Ez (λn=>decide (n=nm)) d.x.dirKs 0))/\Below w.heap.size w w':=by
 unfold Nd.dirKs;by_cases H:d.x.kind=2
 .rw[NS H,NS H]
  obtain⟨b,p,ly,⟨k,m,u,g,o,rL,Z,ks⟩,h⟩:=d;exact Pu (m:=nm) (.inr<|.inl ⟨rfl,rfl⟩) h.ak h.ck G ks w O (Cs.1 J.2).2.2.2 I
 .rw[NO H,NO H]
  exact Pu (m:=nm) (.inr<|.inl ⟨rfl,rfl⟩) none 0 G [] w oS (.inl rfl) I
theorem bV(J G n₀:Nat)(a:Option Addr)(cap:Nat)(D:List Sp)(nm:BA)(H:Nat->Option Sp)(w:World)(bY:n₀=w.heap.size)(hd:w.cell? (aD J 0)=some (.slice a D.length cap))(ao:w.cell? (aD G 0)=some (.string nm))(b0:D.length<=1000)(a7:∀d∈D,d.x.kids.length<=1000)
 (a8:Eh w.cell? a D) (ba:∀(i:Nat) d,D[i]? =some d->C8 w.cell? d) (bb:∀(i:Nat) d,D[i]? =some d->KO w.cell? nm d (H i)):
 QE 195 #[pO J 0,pO G 0] n₀ w ((List.range D.length).filterMap H):=by
 subst bY;intro l ap bd W be O bf b1;have b2:J<w.heap.size:=bL hd;have b4:G<w.heap.size:=bL ao;have b6:=(be.cell (p:=(aD J 0)) b2).trans hd;show CallsIn Fence.wide 0 prog 195 #[.func (.yield l) #[] #[],pO J 0,pO G 0] W _;refine callsIn_of_wp func195 rfl trivial ?_ rfl;simp only[ntmps195,List.size_toArray,R5,RC,Nat.reduceAdd,Nat.reduceSub,tH,tG,List.push_toArray,List.append_toArray,CN,Cd];have bg:Hid _:=bf;have b7:Hid _:=a8;have ar:Hid _:=ba;have b9:Hid _:=bb;have HK:Hid _:=a7;have ce:Hid _:=ao;obtain⟨N,bi⟩:=Aq D.length;rw[bi.out]at b6 b0 bg⊢;clear bf a8 ba bb a7 hd ao;gi_wp2
 gi_loopw [5,6,9] (λ_ _ i wr=>∃j:Nat,j<=N/\i=iN j/\ap ((List.range j).filterMap H).length wr/\Below w.heap.size w wr) (λ_ _ i _=>N-(intOf i).toNat)
 case atStart=>exact⟨0,N7 _,rfl,b1,be⟩
 case round=>
  obtain⟨j,dr,rfl,bk,Z⟩:=hrel;by_cases bl:j<N;rotate_left
  .have cf:decide ((j:Int)<(N:Int))=false:=NM oM
   gi_wp2
   go_end0
   exact⟨⟨_,rfl⟩,.inl (by rw[show N=j by omega];exact bk)⟩
  .have cf:decide ((j:Int)<(N:Int))=true:=NY oM
   obtain⟨d,hd⟩:∃d,D[j]? =some d:=⟨_,NA (by rw[bi.out];exact bl)⟩;obtain⟨b,ab,rfl,ch⟩:∃b ab,a=some (aD b ab)/\∀i d,D[i]? =some d->Ce w b (ab+i*2) (pO d.b d.p)/\Ce w b (ab+i*2+1) (iN d.ly):=by
    rcases b7.out with e|e
    .subst e;simp at hd
    .exact e
   obtain⟨bn,bo⟩:=ch j d hd;have bn:=Ai Z _ _ bn;have bo:=Ai Z _ _ bo;have aw:Below wr.heap.size wr<|wr.alloc<|.cells #[pO d.b d.p,iN d.ly] 164:=bN;obtain⟨c0,c1⟩:=GS wr (pO d.b d.p) (iN d.ly) 164;have cl:=(ar j d hd).below Z;have bp:=Z.trans<|aw.mono Z.size;have co:=O _ _ _ bk aw;have bq:Hid<|CallsIn Fence.wide 0 prog 108 #[.agg #[pO d.b d.p,iN d.ly]] (wr.alloc<|.cells #[pO d.b d.p,iN d.ly] 164) _:=ts.2<|WF<|cl.below aw;have bs:Hid (∀W2:World,Below w.heap.size w W2->CallsIn Fence.wide 0 prog 196 #[if d.x.kind=2 then .slice d.h.ak d.x.kids.length d.h.ck else nL,.func (.func 197) #[] #[pO G 0]] W2 λe cr=>e=.returned (iN (Ez (λn=>decide (n=nm)) d.x.dirKs 0))/\Below W2.heap.size W2 cr):=λW2 bu=>ts.2<|lu (ar j d hd |>.below bu) nm G (HK d<|NW hd)<|(bu.cell (p:=(aD G 0)) b4).trans ce.out;obtain⟨ds,cx⟩:=Aq<|(if d.x.kind=2 then .slice d.h.ak d.x.kids.length d.h.ck else nL:Value)
   rw[cx.out]at bq bs;gi_wp2_with fail
   refine⟨trivial,rfl,CallsIn.mono bq ?_⟩;rintro e cD ⟨rfl,ad⟩;have az:=bp.trans<|ad.mono bp.size;have cF:=O _ _ _ co ad;have c3:=Ai ad _ _ c0;have c4:=Ai ad _ _ c1;have c5:Hid _:=bs cD az;gi_wp2_with fail
   refine⟨trivial,rfl,CallsIn.mono c5 ?_⟩;rintro e I ⟨rfl,ak⟩;have aA:=az.trans<|ak.mono az.size;have bx:=O _ _ _ cF ak;have c6:=Ai ak _ _ c3;have c8:=Ai ak _ _ c4;have bA:=(ar j d hd).below aA;rcases b9 j d hd with⟨al,_,bB⟩|⟨du,dw,dx,y,dy,al,bB,c9,_,da,dz,dd,dT⟩
   .rw[bB]
    have de:prog.follows .mixedOrders=true:=by kernel_rfl
    gi_wp2_with fail
    refine wpIn_region_quiet_lit rfl oK oK ?_;repeat(gi_big_quiet_step (fail))
    refine BigFrame.wpQuietIn_skip (λ_ _ _ _=>trivial) rfl ?_;simp only[go_sem,List.setIfInBounds_toArray,List.set_cons_succ,List.set_cons_zero];repeat(gi_big_quiet_step (fail))
    refine wpQuietIn_nil ?_;rintro _ ⟨nq,rfl⟩;gi_wp2
    go_roundw
    case rel=>exact⟨j+1,by omega,by go_num,by rw[V6,al];exact O _ _ _ bx<|Kb (NB _ _) nq,Kb aA nq⟩
    case measure=>(simp[intOf];try omega)
   .have de:prog.follows .mixedOrders=true:=by kernel_rfl
    have dg:=mP H N j bl al;obtain⟨fn,tmps,assign,body,bC,dj⟩:=bg _ _ I.drew dg<|O _ _ _ bx (NB _ _).drew;have dk:Hid (RoundIn Fence.wide 0 prog l fn tmps assign body I.drew λe B=>∃bv,e=.returned (.bool bv)/\((bv=true/\ap (((List.range j).filterMap H).length+1) B/\Below w.heap.size I.drew B)\/(bv=false/\bd B))):=RoundIn.mono dj λe B h=>by
     rcases h with⟨rfl,a1,dm⟩|⟨rfl,a1⟩
     .exact⟨true,rfl,.inl ⟨rfl,a1,dm⟩⟩
     .exact⟨false,rfl,.inr ⟨rfl,a1⟩⟩
    rw[Sp.v]at bC;dsimp only at bC;obtain⟨n0,_,bF⟩:Ce I.drew d.b d.p (iN d.x.kind)/\True/\Ce I.drew d.b (d.p+7) (.slice d.h.ak d.x.kids.length d.h.ck):=by
     obtain⟨b,p,ly,⟨k,m,u,g,o,rL,d0,ks⟩,h⟩:=d;exact⟨bA.1.split.1,trivial,bA.1.split.2.2⟩
    rw[c9]at bF;have c7:=c6;have d1:=c8;rw[da];obtain⟨d2,dn⟩:=Aq d.x.kids.length;rw[dn.out]at bF dd;gi_wp2_with fail
    gi_region_with_o (refine⟨rfl,RoundIn.mono dk ?_⟩;rintro e a6 ⟨bv,rfl,bG⟩)
    all_goals
     cases bv with
     |true=>
      have bH:ap (((List.range j).filterMap H).length+1) a6/\Below w.heap.size I.drew a6:=by
       rcases bG with⟨_,h⟩|⟨h,_⟩
       .exact h
       .cases h
      gi_wp2
      go_roundw
      case rel=>exact⟨j+1,by omega,by go_num,by rw[V6,al];exact bH.1,aA.trans<|Below.trans (NB _ _).drew bH.2⟩
      case measure=>(simp[intOf];try omega)
     |false=>
      have dp:bd a6:=by
       rcases bG with⟨h,_⟩|⟨_,h⟩
       .cases h
       .exact h
      gi_wp2
      refine NZ (results_none rfl _ _ _) rfl ?_;exact⟨⟨_,rfl⟩,.inr dp⟩
def Nd.opq:Nd->Bool
 |.mk _ _ _ _ o _ _ _=>o
def F5:List (Nd×Nat)->List (Nd×Nat)
 |[]=>[]
 |s::r=>if s.1.kind≠2 then []else if s.1.opq=true then [s]else s::F5 r
def A8:List (Nd×Nat)->List (Nd×Nat)
 |[]=>[]
 |s::r=>if s.1.kind=1 then [s]else F5 (s::r)
def FX:List Sp->List Sp
 |[]=>[]
 |s::r=>if s.x.kind≠2 then []else if s.x.opq=true then [s]else s::FX r
def BM:List Sp->List Sp
 |[]=>[]
 |s::r=>if s.x.kind=1 then [s]else FX (s::r)
theorem Xu:∀T:List Sp,(FX T).map Sp.pr=F5 (T.map Sp.pr)
 |[]=>rfl
 |s::r=>by
  rw[FX,CB,F5];by_cases G:s.x.kind≠2
  .rw[NS G,NS (show s.pr.1.kind≠2 from G)];rfl
  .rw[NO G,NO (show¬s.pr.1.kind≠2 from G)]
   by_cases H:s.x.opq=true
   .rw[NS H,NS (show s.pr.1.opq=true from H)];rfl
   .rw[NO H,NO (show¬s.pr.1.opq=true from H),CB,Xu r]
theorem SN(T:List Sp):(BM T).map Sp.pr=A8 (T.map Sp.pr):=by
 cases T with
 |nil=>rfl
 |cons s r=>
  rw[BM,CB,A8];by_cases G:s.x.kind=1
  .rw[NS G,NS (show s.pr.1.kind=1 from G)];rfl
  .rw[NO G,NO (show¬s.pr.1.kind=1 from G),Xu];rfl
theorem kW:∀(T:List Sp) s,s∈FX T->s∈T:=by intro T s;induction T generalizing s<;>grind [FX]
theorem Xt(T:List Sp)(s:Sp)(h:s∈BM T):s∈T:=by cases T<;>grind [BM,kW]
theorem WW:∀T:List Sp,(FX T).length<=T.length
 |[]=>rP _
 |t::r=>by
  rw[FX];split
  .exact N7 _
  split
  .simp
  .simp;exact WW r
theorem oh(T:List Sp):(BM T).length<=T.length:=by cases T<;>grind [BM,WW]
def Nu(L:List Sp):Prop:=∀s∈L,s.x.kind=2/\s.x.opq=false
theorem jN(h:Nu L)(r:List Sp):FX (L++r)=L++FX r:=by
 induction L with
 |nil=>rfl
 |cons s L H=>
  have G:=h s<|N4 ..;rw[Cd,FX,NO (by rw[G.1];simp),NO (by rw[G.2];simp),H λt I=>h t<|R4 _ I];rfl
theorem Ss(h:Nu L)(G:L≠[])(r:List Sp):BM (L++r)=L++FX r:=by
 cases L with
 |nil=>exact absurd rfl G
 |cons s L=>
  have H:=h s<|N4 ..;rw[<-jN h r,Cd,BM,NO (by rw[H.1];decide)]
theorem XR(G:s.x.kind≠1)(L r:List Sp)(H:Nu L):BM (L++s::r)=L++FX (s::r):=by grind [BM,Ss]
def Ex:List Sp->List Value
 |[]=>[]
 |s::r=>pO s.b s.p::iN s.ly::Ex r
theorem Rt:∀a b:List Sp,Ex (a++b)=Ex a++Ex b
 |[],b=>rfl
 |s::a,b=>by simp[Ex,Rt a b]
theorem Xq:∀(L:List Sp) (i:Nat) (s:Sp),L[i]? =some s->(Ex L)[i*2]? =some (pO s.b s.p)/\(Ex L)[i*2+1]? =some (iN s.ly):=by intro L i s;induction L generalizing i s<;>grind [Ex]
def L0(base:Nat)(a:Option Addr)(L:List Sp):Prop:=L=[]\/∃g G,a=some (aD g G)/\base<=g
theorem Ly(h:w.ownsRow base t 2 v L.length<|Ex L):∃a cap,v=.slice a L.length cap/\L.length<=cap/\cap<=9223372036854775807/\Eh w.cell? a L/\L0 base a L:=by
 rcases h.2 with⟨rfl,G⟩|⟨g,cap,O,rfl,hb,Z,H,I,ab,ad⟩
 .rw[G]
  exact⟨none,0,rfl,rP _,by omega,.inl<|CI.1 G,.inl<|CI.1 G⟩
 .refine⟨some<|aD g 0,cap,rfl,H,by simpa [maxLen]using I,.inr ⟨g,0,rfl,λi d J=>?_⟩,.inr ⟨g,0,rfl,hb⟩⟩
  obtain⟨f1,f2⟩:=Xq L i d J;grind [Iu]
theorem Uo(h:Below A.heap.size A B):A.grownBy B none:=⟨h.os,h.tape,h.output,h.size,λk G _=>h.block k G⟩
theorem Ew{b:Nat}(h:Boxed A b t v)(hb:Below A.heap.size A B):Boxed B b t v:=h.kept (Uo hb) oS
theorem Fy{n:Nat}{xs:List Value}(h:A.ownsRow base t n v k xs)(hb:Below A.heap.size A B):B.ownsRow base t n v k xs:=by
 refine h.kept (Uo hb) ?_;grind
theorem Hy{b:Nat}(h:Boxed A b t v){r:Loop}(G:A.heap[l]? =some (.loop r))(o:Obj):Boxed (A.putObj l o) b t v:=h.kept (grownBy_putObj' A l o) (λe=>by
 cases e;rw[show A.heap[l]? =_ from h]at G;cases G)
theorem GC{n₀:Nat}(G:n₀<=A.heap.size)(H:n₀<=l)(o:Obj):Below n₀ A<|A.putObj l o:=(NB n₀ A).grown (grownBy_putObj' A l o) G (λk e=>by cases e;exact H)
structure GL (w W:World) (L:List Sp) (st:Loop):Prop where
 low:Below w.heap.size w W
 rb:Boxed W w.heap.size 155<|nL
 sb:∃v,Boxed W (w.heap.size+1) 155 v/\W.ownsRow w.heap.size 164 2 v L.length (Ex L)
 dk:W.heap[w.heap.size+1+1]? =some (.deferred<|some [])
 lk:W.heap[w.heap.size+1+1+1]? =some (.loop st)
theorem GL.keep(h:GL w A L st)(hb:Below A.heap.size A B):GL w B L st:=by
 obtain⟨v,G,H⟩:=h.sb;refine⟨h.low.trans<|hb.mono h.low.size,Ew h.rb hb,⟨v,Ew G hb,Fy H hb⟩,?_,?_⟩
 .exact(hb.block _ (N3.1 h.dk).1).trans h.dk
 .exact(hb.block _ (N3.1 h.lk).1).trans h.lk
theorem GL.put(h:GL w A L st)(G:Loop):GL w (A.putObj (w.heap.size+1+1+1)<|.loop G) L G:=by
 obtain⟨v,H,I⟩:=h.sb;refine⟨h.low.trans<|GC h.low.size oM _,Hy h.rb h.lk _,⟨v,Hy H h.lk _,ownsRow_putObj I _ h.lk rfl⟩,?_,?_⟩
 .exact(World.putObj_heap_other oM).trans h.dk
 .exact World.putObj_heap_same (N3.1 h.lk).1
theorem oX{n:Nat}{xs:List Value}(h:w.ownsRow base t n v k xs){g:Nat}(G:v.ownBlock=some g):g<w.heap.size:=by
 rcases h.2 with⟨rfl,_⟩|⟨I,cap,J,rfl,_,H,_⟩
 .cases G
 .cases G
  exact(N3.1 H).1
theorem GL.appended{G:World}(h:GL w A L st){H:Value}{Z:Obj}(ab:Boxed A (w.heap.size+1) 155 v)(J:A.ownsRow w.heap.size 164 2 v L.length<|Ex L)
 (ad:G.ownsRow w.heap.size 164 2 H (L.length+1)<|Ex L++[pO s.b s.p,iN s.ly]) (O:(A.alloc Z).grownBy G v.ownBlock):
 Boxed G (w.heap.size+1) 155 v/\GL w (G.setCell (aD (w.heap.size+1) 0) H) (L++[s]) st/\Below w.heap.size A (G.setCell (aD (w.heap.size+1) 0) H)/\∀k,k<A.heap.size->k≠w.heap.size+1->v.ownBlock≠some k->(G.setCell (aD (w.heap.size+1) 0) H).heap[k]? =A.heap[k]?:=by
 obtain⟨ak,a2,a3,a4,a5⟩:=ab.appended oD J h.low.size oM ad O;have I:∀k,k<A.heap.size->k≠w.heap.size+1->v.ownBlock≠some k->(G.setCell (aD (w.heap.size+1) 0) H).heap[k]? =A.heap[k]?:=λk I al ao=>by
  rw[Cv _ _ _ k al,O.block k (by rw[ND];omega) λe=>ao e.symm,ti _ _ _ I]
 refine⟨ak,⟨h.low.trans a5,?_,⟨H,a2,?_⟩,a4.same _ _ h.dk rfl,a4.same _ _ h.lk rfl⟩,a5,I⟩
 .exact(I _ h.rb.lt oM (h.rb.not_row oD J).symm).trans h.rb
 .rw[Rt,N6]
  exact a3
theorem Tryz.infoSp:(prog.info? 164).map (λi=>(i.zero,i.size,i.bytes))=some (some<|.agg #[.pointer none,iN 0],2,16):=by kernel_rfl
theorem QQ(w:World)(x y:Value)(t:TypeId):∀j u,[x,y][j]? =some u->(w.alloc<|.cells #[x,y] t).cell? (((aD w.heap.size 0):Addr).add j)=some u:=by
 intro j u G;match j,G with
 |0,G=>simp at G;subst G;exact aC
 |1,G=>simp at G;subst G;exact aC
attribute [local go_sem] Oper.semAt_some
structure Qv (w W:World) (L:List Sp) (st:Loop):Prop where
 low:Below w.heap.size w W
 rb:∃a cap,Boxed W w.heap.size 155 (.slice a L.length cap)/\L.length<=cap/\cap<=9223372036854775807/\Eh W.cell? a L/\L0 w.heap.size a L
 dk:W.heap[w.heap.size+1+1]? =some (.deferred<|some [])
 lk:W.heap[w.heap.size+1+1+1]? =some (.loop st)
theorem Qv.make(h:GL w A L st)(s:Sp)(H:Loop):
 ((A.alloc<|.cells #[pO s.b s.p,iN s.ly] 164).setCell (aD w.heap.size 0)<|sL A.heap.size 0 1 1).heap[w.heap.size+1+1+1]? =some (.loop st)/\
 Qv w (((A.alloc<|.cells #[pO s.b s.p,iN s.ly] 164).setCell (aD w.heap.size 0)<|sL A.heap.size 0 1 1).putObj (w.heap.size+1+1+1)<|.loop H) [s] H:=by
 have O:Below A.heap.size A<|A.alloc<|.cells #[pO s.b s.p,iN s.ly] 164:=bN;have G:=h.keep O;have ab:=(N3.1 h.lk).1;have I:((A.alloc<|.cells #[pO s.b s.p,iN s.ly] 164).setCell (aD w.heap.size 0)<|sL A.heap.size 0 1 1).heap[w.heap.size+1+1+1]? =some (.loop st):=by
  rw[Cv _ _ _ _ (by show w.heap.size+1+1+1≠w.heap.size;omega)];exact G.lk
 have Z:((A.alloc<|.cells #[pO s.b s.p,iN s.ly] 164).setCell (aD w.heap.size 0)<|sL A.heap.size 0 1 1).heap[w.heap.size+1+1]? =some (.deferred<|some []):=by
  rw[Cv _ _ _ _ (by show w.heap.size+1+1≠w.heap.size;omega)];exact G.dk
 have ad:∀j,(((A.alloc<|.cells #[pO s.b s.p,iN s.ly] 164).setCell (aD w.heap.size 0)<|sL A.heap.size 0 1 1).putObj (w.heap.size+1+1+1)<|.loop H).cell? (aD A.heap.size j)=(A.alloc<|.cells #[pO s.b s.p,iN s.ly] 164).cell? (aD A.heap.size j):=λj=>RE (by
  rw[World.putObj_heap_other (by show A.heap.size≠_;omega),Cv _ _ _ _ (by show A.heap.size≠w.heap.size;omega)])
 obtain⟨c0,c1⟩:=GS A (pO s.b s.p) (iN s.ly) 164;refine⟨I,⟨?_,⟨some<|aD A.heap.size 0,1,Hy (G.rb.set _) I _,rP _,by omega,.inr ⟨A.heap.size,0,rfl,λi d ak=>?_⟩,.inr ⟨A.heap.size,0,rfl,h.low.size⟩⟩,(World.putObj_heap_other oM).trans Z,World.putObj_heap_same (N3.1 I).1⟩⟩
 .have J:Below w.heap.size w<|(A.alloc<|.cells #[pO s.b s.p,iN s.ly] 164).setCell (aD w.heap.size 0)<|sL A.heap.size 0 1 1:=G.low.setCell (p:=(aD w.heap.size 0)) (rP _) _
  exact J.trans<|GC J.size oM _
 all_goals grind
theorem Nl{o:Obj}(G:A.heap[l]? =some o)(H:o.isCells=false)(I:Obj):AW A.cell? (A.putObj l I).cell?:=λ_ _ h=>cell_kept h (grownBy_putObj' _ _ _) (λr e=>by cases e;exact⟨_,G,H⟩)
theorem Eh.on(h:Eh c a D)(hb:AW c G):Eh G a D:=by
 rcases h with e|⟨b,I,e,h⟩
 .exact .inl e
 .exact .inr ⟨b,I,e,λi d H=>⟨hb _ _ (h i d H).1,hb _ _ (h i d H).2⟩⟩
theorem Rp{V:World}{G:Act}(ad:G.tmps[2]? =some (pO w.heap.size 0))(hd:G.defers=[{target:=.collected<|w.heap.size+1+1,args:=#[]}])(H:V.heap[w.heap.size+1+1]? =some (.deferred<|some []))(hb:V.cell? ⟨w.heap.size,0,none⟩=some (.slice a L.length cap))(ak:L.length<=cap)(al:cap<=9223372036854775807)(ao:Eh V.cell? a L)(ap:L0 w.heap.size a L)(I:Below w.heap.size w V):
 bodyPostM Fence.wide 1 prog Tryz.f109 (λe w'=>∃a cap,e=.returned (.slice a L.length cap)/\L.length<=cap/\cap<=9223372036854775807/\Eh w'.cell? a L/\L0 w.heap.size a L/\Below w.heap.size w w') .ret G V:=by
 show LeavesInM Fence.wide 1 prog Tryz.f109 G.tmps _ G.defers .returning V;rw[hd];refine⟨by simp,.inl ⟨_,_,rfl,run_takeDeferred H,?_⟩⟩;have J:=Nl H rfl (.deferred none);have O:=J _ _ hb;have Z:=ao.on J;have ab:=I.trans<|GC I.size oM (.deferred none) (l:=w.heap.size+1+1);generalize V.putObj (w.heap.size+1+1) (.deferred none)=ar at O Z ab⊢;exact⟨.slice a L.length cap,by simp[results,results109,go_sem,ad,O],a,cap,rfl,ak,al,Z,ap,ab⟩
theorem Rm{gf:Nat}{lb:Array Value}{T:List Sp}(b7:QE gf lb w.heap.size w T)(b9:∀args w,(callFunc gf args).run prog w=.ok (.enter gf args) w)(ce:∀s∈T,C8 w.cell? s)(dm:T.length<=1000):
 Calls prog 109 #[.func (.func gf) #[] lb] w λe w'=>∃a cap,e=.returned (.slice a (BM T).length cap)/\(BM T).length<=cap/\cap<=9223372036854775807/\Eh w'.cell? a (BM T)/\L0 w.heap.size a (BM T)/\Below w.heap.size w w':=by
 have⟨i0,hti,hz0,hz1,hz2⟩:=info_parts Tryz.infoSp;refine(ts (n:=1)).1 ?_;refine callsIn_of_wp_marks func109 rfl trivial ?_ rfl;simp only[ntmps109,List.size_toArray,R5,RC,Nat.reduceAdd,Nat.reduceSub,tH,tG,List.push_toArray,List.append_toArray,CN,Cd];gi_wp2_with fail
 have bk:Below w.heap.size w<|(w.alloc<|.cells #[nL] 155).alloc<|.cells #[nL] 155:=bN.alloc (by rw[ND];omega) _;have aw:((w.alloc<|.cells #[nL] 155).alloc<|.cells #[nL] 155).heap.size=w.heap.size+1+1:=by rw[ND,ND]
 have bl:Boxed ((w.alloc<|.cells #[nL] 155).alloc<|.cells #[nL] 155) w.heap.size 155 nL:=(Boxed.new w _ _).alloc _;have bn:Boxed ((w.alloc<|.cells #[nL] 155).alloc<|.cells #[nL] 155) (w.heap.size+1) 155 nL:=by
  have:=Boxed.new (w.alloc<|.cells #[nL] 155) 155 nL;rwa [ND]at this
 generalize(w.alloc<|.cells #[nL] 155).alloc (.cells #[nL] 155)=dn at bk aw bl bn⊢;refine O7 (gf:=gf) (lb:=lb) rfl b9 ?_;intro fn rec cf bo al ch bp bq;rw[aw]at al ch bp bq⊢;have ap:GL w bo []<|rec .ready none:=⟨bk.trans<|al.mono oM,Ew bl (by rw[aw];exact al),⟨_,Ew bn (by rw[aw];exact al),CZ _ _ _ _⟩,bq,bp⟩;refine(b7 (w.heap.size+1+1+1) (λi W=>i<=T.length/\Nu (T.take i)/\GL w W (T.take i) (rec .ready none)) (λW=>GL w W (BM T) (rec .done<|some<|.exit 0)\/Qv w W (BM T) (rec .done<|some .ret)) bo ap.low (λi A B h hb=>⟨h.1,h.2.1,h.2.2.keep hb⟩) ?rounds ⟨N7 _,λs cl=>(by cases cl),ap⟩).mono ?after
 case rounds=>
  rintro i s A az ⟨dp,O,Z⟩;have co:=NW az;have cr:=(NE.1 az).1;have aA:Hid (T=T.take i++s::T.drop (i+1)):=by
   show T=_;have e:=N9 cr;rw[(NE.1 az).2]at e;rw[<-e,CR]
  have a7:Hid<|T.take (i+1)=T.take i++[s]:=by show _=_;rw[CO,az];rfl
  have bs:(T.take i).length=i:=by rw[C3];omega
  have bu:=ce s co;have⟨v,hv,hrow⟩:=Z.sb;have bx:∀g,v.ownBlock=some g->g<A.heap.size:=λg cx=>oX hrow cx;obtain⟨va,vc,rfl,_⟩:=Ly hrow
  rw[bs]at bx hv hrow;have bA:Hid _:=bs;rw[show s.v=.agg #[pO s.b s.p,iN s.ly]from rfl];refine MK cf Z.lk rfl ?_;gi_wp2
  refine⟨(Z.keep bN).lk,?_⟩;have ao:Below A.heap.size A<|A.alloc<|.cells #[pO s.b s.p,iN s.ly] 164:=bN;have G:=(Z.keep ao).put<|rec .busy none;have dr:=(N3.1 Z.lk).1;have bB:Below w.heap.size A<|(A.alloc<|.cells #[pO s.b s.p,iN s.ly] 164).putObj (w.heap.size+1+1+1)<|.loop<|rec .busy none:=(ao.mono oM).trans<|GC (by rw[ND];omega) oM _;have a8:=Hy (Ew hv ao) (Z.keep ao).lk<|.loop<|rec .busy none;have ba:=ownsRow_putObj (Fy hrow ao) (.loop<|rec .busy none) (Z.keep ao).lk rfl;have⟨c0,c1⟩:=GS A (pO s.b s.p) (iN s.ly) 164;have cD:∀j,((A.alloc<|.cells #[pO s.b s.p,iN s.ly] 164).putObj (w.heap.size+1+1+1)<|.loop<|rec .busy none).cell? (aD A.heap.size j)=(A.alloc<|.cells #[pO s.b s.p,iN s.ly] 164).cell? (aD A.heap.size j):=λj=>RE<|World.putObj_heap_other (by show A.heap.size≠_;omega);rw[<-cD]at c0 c1
  have bC:A.heap.size<((A.alloc<|.cells #[pO s.b s.p,iN s.ly] 164).putObj (w.heap.size+1+1+1)<|.loop<|rec .busy none).heap.size:=by rw[World.putObj_size,ND];omega
  generalize(A.alloc<|.cells #[pO s.b s.p,iN s.ly] 164).putObj (w.heap.size+1+1+1) (.loop<|rec .busy none)=a1 at G bB c0 c1 a8 ba bC⊢;have⟨n0,n4,_⟩:Ce a1 s.b s.p (iN s.x.kind)/\Ce a1 s.b (s.p+4) (.bool s.x.opq)/\True:=by
   have ab:=bu.1.below G.low;have⟨b,p,ly,⟨k,m,u,g,o,rL,d,ks⟩,h⟩:=s;exact⟨ab.split.1,ab.split.2.1,trivial⟩
  have cF:s.b<w.heap.size:=by
   have ab:=bu.1;have⟨b,p,ly,⟨k,m,u,g,o,rL,d,ks⟩,h⟩:=s;exact bL ab.split.1
  have bF:=a8.cell;have bG:=G.rb.cell;have bH:=G.rb.frozen;generalize ad:s.x.kind=k at*;generalize bY:s.x.opq=o at*;by_cases ab:k=1
  .subst ab
   by_cases ap:i=0
   .subst ap
    have ds:=(G.rb.alloc<|.cells #[pO s.b s.p,iN s.ly] 164).cell;have du:=(G.rb.alloc<|.cells #[pO s.b s.p,iN s.ly] 164).frozen;have ak:Hid<|BM T=[s]:=by
     show BM T=[s];rw[aA.out,List.take_zero,CN,BM,NS ad]
    have⟨m1,m2⟩:=Qv.make G s<|rec .done<|some .ret;gi_wp2_with fail
    exact⟨m1,.inr ⟨rfl,.inr (by rw[ak.out];exact m2)⟩⟩
   .have ak:Hid<|BM T=T.take i:=by
     show BM T=_;conv=>lhs;rw[aA.out]
     rw[Ss O (λe=>ap (by have:=bA.out;rw[e]at this;exact this.symm)),FX,NS (by rw[ad];decide),te]
    gi_wp2_with fail
    exact⟨G.lk,.inr ⟨rfl,.inl (by rw[ak.out];exact G.put _)⟩⟩
  by_cases b0:k=2;rotate_left
  .have ak:Hid<|BM T=T.take i:=by
    show BM T=_;conv=>lhs;rw[aA.out]
    rw[XR (by rw[ad];exact ab) _ _ O,FX,NS (by rw[ad];exact b0),te]
   gi_wp2_with fail
   exact⟨G.lk,.inr ⟨rfl,.inl (by rw[ak.out];exact G.put _)⟩⟩
  subst b0;have c3:Hid<|o=true->BM T=T.take (i+1):=λe=>by
   rw[a7.out];conv=>lhs;rw[aA.out]
   rw[XR (by rw[ad];decide) _ _ O,FX,NO (by rw[ad];simp),NS (by rw[bY];exact e)]
  have c4:Hid<|o=false->Nu (T.take<|i+1):=λe t b1=>by
   rw[a7.out]at b1;rcases Cq.1 b1 with a6|a6
   .exact O t a6
   .rw[CD]at a6;rw[a6];exact⟨ad,by rw[bY];exact e⟩
  have c5:Hid (∀J I,I.ownsRow w.heap.size 164 2 J (i+1) (Ex (T.take i)++[pO s.b s.p,iN s.ly])->(a1.alloc<|.cells #[pO s.b s.p,iN s.ly] 164).grownBy I (Value.slice va i vc).ownBlock->
   ∃g cap,J=sL g 0 (i+1) cap/\Boxed I (w.heap.size+1) 155 (.slice va i vc)/\GL w (I.setCell (aD (w.heap.size+1) 0) J) (T.take<|i+1) (rec .busy none)/\Below w.heap.size A (I.setCell (aD (w.heap.size+1) 0) J)/\Ce (I.setCell (aD (w.heap.size+1) 0) J) A.heap.size 0 (pO s.b s.p)/\Ce (I.setCell (aD (w.heap.size+1) 0) J) s.b (s.p+4) (.bool o)):=λJ I q1 q2=>by
   have⟨g,cap,e⟩:=ownsRow_succ q1;have b2:=bA.out;obtain⟨c6,a2,a3,a4⟩:=G.appended (s:=s) a8 (by rw[b2];exact ba) (by rw[b2];exact q1) q2;rw[<-a7.out]at a2;refine⟨g,cap,e,c6,a2,bB.trans a3,?_,?_⟩
   .exact(RE (a:=(aD A.heap.size 0))<|a4 A.heap.size bC oM (λe=>by have:=bx A.heap.size e;omega)).trans c0
   .exact(a3.cell (p:=(aD s.b<|s.p+4)) cF).trans n4
  have c8:=ba;gi_wp2_with (gi_at_builtin;refine wpListIn_append_own _ rfl _ _ 155 rfl w.heap.size 164 i0 (.agg #[.pointer none,iN 0]) 2 16 underlying155 hti hz0 hz1 hz2 rfl oD _ _ _ rfl (c8.alloc _) (aD a1.heap.size 0) 1 1 [pO s.b s.p,iN s.ly] rfl rfl (QQ _ _ _ _) (by simp[Value.oneCell']) (by simp[maxLen];omega) oM (by have:=G.low.size;simp;omega) ?_;intro J I c9 da _;obtain⟨dw,dx,rfl,b4,ar,al,dy,dz⟩:=c5 J I c9 da;have dT:=b4.cell;have d0:=b4.frozen)
  .have dd:o=true:=by assumption
   exact⟨ar.lk,.inr ⟨rfl,.inl (by rw[c3.out dd];exact ar.put _)⟩⟩
  .have de:o=false:=by assumption
   exact⟨ar.lk,.inl ⟨rfl,⟨by omega,c4 de,ar.put _⟩,al.trans<|GC (Rz ar.low.size<|rP _) oM _⟩⟩
 case after=>
  rintro e W2 ⟨⟨v,rfl⟩,h⟩;refine⟨⟨_,rfl⟩,?_⟩;rcases h with⟨_,O,G⟩|G|G
  .rw[List.take_length]at O G
   have ak:Hid<|BM T=T:=by
    show BM T=T;cases T with
    |nil=>rfl
    |cons s r=>have:=Ss O oS [];rwa [te,FX,te]at this
   left
   have bb:GL w W2 (BM T)<|rec .ready none:=by rw[ak.out];exact G
   refine⟨G.lk,?_⟩;have H:=bb.put<|rec .exhausted none;generalize W2.putObj (w.heap.size+1+1+1) (.loop<|rec .exhausted none)=bd at H⊢;have⟨v,hv,hrow⟩:=H.sb;obtain⟨va,vc,rfl,be,bf,dg,bg⟩:=Ly hrow;have bF:=hv.cell;have bG:=H.rb.cell;have bH:=H.rb.frozen;gi_wp2
   have bi:=hrow.kept (grownBy_setCell' bd w.heap.size<|.slice va (BM T).length vc)<|.inr (H.rb.not_row oD hrow).symm;have⟨va2,vc2,e2,_,_,r4,_⟩:=Ly bi;simp only[CH,true_and]at e2;obtain⟨rfl,rfl⟩:=e2;exact Rp rfl rfl ((Cv _ _ _ _ (by show w.heap.size+1+1≠w.heap.size;omega)).trans H.dk) (H.rb.set _).cell be bf r4 bg (H.low.setCell (p:=(aD w.heap.size 0)) (rP _) _)
  .right
   refine⟨.exit 0,G.lk,?_⟩;have bb:=G;have H:=bb.put<|rec .exhausted<|some<|.exit 0;generalize W2.putObj (w.heap.size+1+1+1) (.loop<|rec .exhausted<|some<|.exit 0)=bd at H⊢;have⟨v,hv,hrow⟩:=H.sb;obtain⟨va,vc,rfl,be,bf,dg,bg⟩:=Ly hrow;have bF:=hv.cell;have bG:=H.rb.cell;have bH:=H.rb.frozen;gi_wp2
   have bi:=hrow.kept (grownBy_setCell' bd w.heap.size<|.slice va (BM T).length vc)<|.inr (H.rb.not_row oD hrow).symm;have⟨va2,vc2,e2,_,_,r4,_⟩:=Ly bi;simp only[CH,true_and]at e2;obtain⟨rfl,rfl⟩:=e2;exact Rp rfl rfl ((Cv _ _ _ _ (by show w.heap.size+1+1≠w.heap.size;omega)).trans H.dk) (H.rb.set _).cell be bf r4 bg (H.low.setCell (p:=(aD w.heap.size 0)) (rP _) _)
  .right
   refine⟨.ret,G.lk,?_⟩;have⟨ra,rc,q1,q2,q3,q4,q5⟩:=G.rb;have b6:=Nl G.lk rfl (.loop<|rec .exhausted<|some .ret);have dj:=G.low.trans<|GC G.low.size oM (.loop<|rec .exhausted<|some .ret) (l:=w.heap.size+1+1+1);have dk:(W2.putObj (w.heap.size+1+1+1)<|.loop<|rec .exhausted<|some .ret).heap[w.heap.size+1+1]? =some (.deferred<|some []):=(World.putObj_heap_other oM).trans G.dk;gi_wp2
   exact Rp rfl rfl dk (b6 _ _ q1.cell) q2 q3 (q4.on b6) q5 dj
theorem C8.on(h:C8 c s)(hb:AW c G):C8 G s:=⟨h.1.on hb,h.2.on hb⟩
theorem KO.on(h:KO c nm d o)(hb:AW c G):KO G nm d o:=by
 rcases h with h|⟨b,H,j,y,I,J,O,Z,ab,ad,ak,al,ao⟩
 .exact .inl h
 .exact .inr ⟨b,H,j,y,I,J,O,Z,ab,ad,ak,al,ao.on hb⟩
def ES(c:AR)(v:Value)(l:List<|Nd×Nat):Prop:=∃(a:Option Addr) (cap:Nat) (D:List Sp),v=.slice a D.length cap/\D.length<=cap/\cap<=9223372036854775807/\Eh c a D/\(∀s∈D,C8 c s)/\D.map Sp.pr=l
theorem ES.on{l:List (Nd×Nat)}(h:ES c v l)(hb:AW c G):ES G v l:=by
 obtain⟨a,cap,D,H,I,J,O,Z,ab⟩:=h;exact⟨a,cap,D,H,I,J,O.on hb,λs ad=>(Z s ad).on hb,ab⟩
def CP(c:AR)(a:Option Addr)(xs:List Nd):Prop:=xs=[]\/∃b G,a=some (aD b G)/\∃f:Nat->Hd,∀i x,xs[i]? =some x->A9 c b (G+i*8) x (f i)/\Am c x (f i)
theorem CP.on{xs:List Nd}(h:CP c a xs)(hb:AW c G):CP G a xs:=by
 rcases h with h|⟨b,J,O,f,H⟩
 .exact .inl h
 .exact .inr ⟨b,J,O,f,λi x I=>⟨(H i x I).1.on hb,(H i x I).2.on hb⟩⟩
def A5(xs:List Nd):List<|Nd×Nat:=xs.zipIdx
def EM(l:List<|Nd×Nat):Prop:=l.length<=1000/\∀q∈l,cnt q.1<=1000
theorem li(x:Nd):x.kids.length<cnt x:=by
 obtain⟨k,m,u,g,o,rL,d,ks⟩:=x;have:=JV ks;rw[cnt];show ks.length<_;omega
theorem EM.kid{l:List (Nd×Nat)}(h:EM l)(nm:BA):EM<|BU nm l:=by
 refine⟨Rz (List.length_filterMap_le _ _) h.1,λq I=>?_⟩;obtain⟨p,J,e⟩:=C0.1 I;obtain⟨y,G,rfl⟩:=R2.1 e;have Z:=h.2 p J;unfold Ek at G;split at G
 .cases G
 .obtain⟨H,O,rfl⟩:=R2.1 G
  have ab:cnt H.2<=cntL p.1.kids:=by
   obtain⟨n,z⟩:=H;exact MS O
  have ad:cntL p.1.kids<cnt p.1:=by
   obtain⟨⟨k,m,u,g,o,rL,d,ks⟩,ly⟩:=p;show cntL ks<cnt (.mk k m u g o rL d ks);rw[cnt];omega
  grind
theorem kt:∀(l:List<|Nd×Nat) q,q∈F5 l->q∈l:=by intro l q;induction l generalizing q<;>grind [F5]
theorem Jr(l:List<|Nd×Nat)(q:Nd×Nat)(h:q∈A8 l):q∈l:=by cases l<;>grind [A8,kt]
theorem Wp:∀l:List<|Nd×Nat,(F5 l).length<=l.length
 |[]=>rP _
 |t::r=>by
  rw[F5];split
  .exact N7 _
  split
  .simp
  .simp;exact Wp r
theorem oU(l:List<|Nd×Nat):(A8 l).length<=l.length:=by cases l<;>grind [A8,Wp]
theorem EM.sh{l:List (Nd×Nat)}(h:EM l):EM<|A8 l:=⟨Rz (oU l) h.1,λq G=>h.2 q<|Jr l q G⟩
theorem Y3{n₀:Nat}{T:List Sp}(al:∀k,S k=true->k<n₀)(I:(BM T).length<=cap)(J:cap<=9223372036854775807)(H:Eh B.cell? a<|BM T)(O:L0 n₀ a<|BM T)(Z:∀s∈T,C8 (Ag A.cell? S) s)(ab:AW (Ag A.cell? S)<|Ag B.cell? S):ES (Ag B.cell? S) (.slice a (BM T).length cap)<|A8<|T.map Sp.pr:=by
 refine⟨a,cap,BM T,rfl,I,J,?_,λs ad=>(Z s<|Xt T s ad).on ab,SN T⟩;rcases H with e|⟨b,ak,e,H⟩
 .exact .inl e
 .rcases O with G|⟨g,ao,G,ap⟩
  .exact .inl G
  .rw[e]at G
   simp only[RV,Cj]at G;refine .inr ⟨b,ak,e,λi d ar=>?_⟩;grind [CV]
theorem MB(w:World)(a:Option Addr)(n cap:Nat)(nm:BA):
 Calls prog 147 #[.slice a n cap,.string nm] w λe w'=>e=.returned (.func (.func 195) #[] #[pO w.heap.size 0,pO (w.heap.size+1) 0])/\w'=(w.alloc<|.cells #[.slice a n cap] 155).alloc (.cells #[.string nm] 9):=by
 go_enter func147,ntmps147;go_wp2;go_ret;exact⟨rfl,rfl⟩
theorem dU(w:World)(a:Option Addr)(n cap:Nat):
 Calls prog 146 #[.slice a n cap] w λe w'=>e=.returned (.func (.func 194) #[] #[pO w.heap.size 0])/\w'=w.alloc (.cells #[.slice a n cap] 115):=by
 go_enter func146,ntmps146;go_wp2;go_ret;exact⟨rfl,rfl⟩
theorem MG(a1:∀k,S k=true->k<A.heap.size)(nm:BA)(a6:Eh (Ag A.cell? S) a D)(a7:∀s∈D,C8 (Ag A.cell? S) s)(ak:EM<|D.map Sp.pr)(Z:w=(A.alloc<|.cells #[.slice a D.length cap] 155).alloc (.cells #[.string nm] 9)):
 Calls prog 109 #[.func (.func 195) #[] #[pO A.heap.size 0,pO (A.heap.size+1) 0]] w λe B=>∃v,e=.returned v/\ES (Ag B.cell? S) v (A8<|BU nm<|D.map Sp.pr)/\Below A.heap.size A B:=by
 have H:Below A.heap.size A w:=by rw[Z];exact bN.alloc (by rw[ND];omega) _
 have I:=Ai H;have J:=BW A.cell? S;have al:∀(i:Nat) d,D[i]? =some d->C8 (Ag A.cell? S) d:=λi d G=>a7 d<|NW G;obtain⟨O,ab⟩:=pz al nm
 have ao:D.length<=1000:=by have:=ak.1;rwa [CE]at this
 have c0:Ce w A.heap.size 0<|.slice a D.length cap:=by
  rw[Z];exact Ai bN _ _ aC
 have c1:Ce w (A.heap.size+1) 0<|.string nm:=by
  rw[Z];have h:Ce ((A.alloc<|.cells #[.slice a D.length cap] 155).alloc<|.cells #[.string nm] 9) ((A.alloc<|.cells #[.slice a D.length cap] 155).heap.size) 0<|.string nm:=aC;rwa [ND]at h
 have a8:=bV A.heap.size (A.heap.size+1) w.heap.size a cap D nm O w rfl c0 c1 ao (λd hd=>by
  have ap:=ak.2 d.pr<|tr hd;have ar:=li d.x;have aw:cnt d.pr.1=cnt d.x:=rfl;omega) ((a6.on J).on I) (λi d G=>((al i d G).on J).on I) (λi d G=>((ab i d G).on J).on I)
 have az:∀s∈(List.range D.length).filterMap O,C8 (Ag A.cell? S) s:=λs ad=>by
  obtain⟨i,G,e⟩:=C0.1 ad;have ba:=List.mem_range.1 G;exact(ab i _<|NA ba).at s e
 have bb:((List.range D.length).filterMap O).map Sp.pr=BU nm (D.map Sp.pr):=UM D O _ λi d G=>(ab i d G).pr;go_call Rm a8 (enters_of func195 oK rfl) (λs ad=>((az s ad).on J).on I) (Rz (List.length_filterMap_le _ _) (by rw[List.length_range];exact ao)) as e B ⟨a',cap',rfl,ap,ar,aw,h4,hB⟩
 have aA:=H.trans<|hB.mono H.size;refine⟨_,rfl,?_,aA⟩;rw[<-bb];exact Y3 (n₀:=w.heap.size) (λk bd=>N1 (a1 k bd) H.size) ap ar aw h4 az<|Du aA
theorem dS(ad:∀k,S k=true->k<A.heap.size){xs:List Nd}(hx:CP (Ag A.cell? S) a xs)(a1:xs.length<=1000)(O:w=A.alloc (.cells #[.slice a xs.length cap] 115)):
 Calls prog 109 #[.func (.func 194) #[] #[pO A.heap.size 0]] w λe B=>∃v,e=.returned v/\ES (Ag B.cell? S) v (A8<|A5 xs)/\Below A.heap.size A B:=by
 have J:Below A.heap.size A w:=by rw[O];exact bN
 have ak:=Ai J;have al:=BW A.cell? S;have c0:Ce w A.heap.size 0<|.slice a xs.length cap:=by rw[O];exact aC
 obtain⟨T,ao,ap,t3,t4⟩:∃T:List Sp,T.length=xs.length/\T.map Sp.pr=A5 xs/\(∀s∈T,C8 (Ag A.cell? S) s)/\∀i s,T[i]? =some s->∃b H,a=some (aD b H)/\s.b=b/\s.p=H+i*8/\s.ly=i:=by
  rcases hx with rfl|⟨b,H,e,f,ar⟩
  .exact⟨[],rfl,rfl,λs I=>(by cases I),λi s G=>by simp at G⟩
  .refine⟨xs.zipIdx.map λq=>⟨b,H+q.2*8,q.2,q.1,f q.2⟩,by simp,?_,λs I=>?_,λi s G=>?_⟩
   .rw[tC];exact List.map_id' _
   .obtain⟨q,aw,rfl⟩:=CQ.1 I
    have Z:=List.mem_zipIdx_iff_getElem?.1 aw;exact ar q.2 q.1 Z
   .rw[R6,List.getElem?_zipIdx]at G
    cases hx:xs[i]? with
    |none=>rw[hx]at G;cases G
    |some x=>
     rw[hx]at G;simp only[tx,RV]at G;subst G;exact⟨b,H,e,rfl,by simp,by simp⟩
 have az:=bX A.heap.size w.heap.size a cap T w (by rw[O,ND];omega) (rP _) (by rw[ao];exact c0) oM t4;go_call Rm az (enters_of func194 oK rfl) (λs I=>((t3 s I).on al).on ak) oM as e B ⟨a',cap',rfl,Z,h2,h3,h4,hB⟩
 have ab:=J.trans<|hB.mono J.size;refine⟨_,rfl,?_,ab⟩;rw[<-ap];exact Y3 (n₀:=w.heap.size) (λk aA=>N1 (ad k aA) J.size) Z h2 h3 h4 t3<|Du ab
theorem UL(n:Nat):(Builtin.zeroCells zK.cells n).size=n*9:=by rw[size_zeroCells];rfl
theorem VQ(n:Nat)(w:World)(ar:n<=1000):Calls prog 77 #[nL,iN n] w λe w'=>(∃v,e=.returned v/\w'.ownsRow w.heap.size 92 9 v 0 (Bd []))/\Below w.heap.size w w':=by
 by_cases Z:n=0
 .subst Z
  go_enter func77,ntmps77;go_wp2;go_ret;exact⟨⟨_,rfl,CZ _ _ _ _⟩,NB _ _⟩
 obtain⟨ab,ad,ak,al,ao⟩:=EL Tryz.infoK;have G:∀H,(Builtin.append_ #[29,3] H #[nL,iN n]).run prog w=.ok (sL w.heap.size 0 n<|grownCap w n 0 92) (w.drew.alloc<|.cells (Builtin.zeroCells zK.cells n++Builtin.zeroCells zK.cells (grownCap w n 0 92-n)) 92):=λH=>Lib.run_append_nil_zeros w 29 3 H 92 ab _ .i64 .i64 underlying29 underlying3 ad ak n oM (by rw[al];decide) oM (by rw[ao];omega);have ap:=grownCap_ge w n 0 92
 have I:grownCap w n 0 92<=maxLen:=grownCap_le_maxLen w n 0 92 (by unfold maxLen;omega)
 have J:(w.drew.alloc<|.cells (Builtin.zeroCells zK.cells n++Builtin.zeroCells zK.cells (grownCap w n 0 92-n)) 92).ownsRow w.heap.size 92 9 (sL w.heap.size 0 0<|grownCap w n 0 92) 0 []:=
  World.ownsRow_made w.drew _ _ (rP _) I (by rw[Array.size_append,UL,UL];omega)
 have O:Below w.heap.size w<|w.drew.alloc<|.cells (Builtin.zeroCells zK.cells n++Builtin.zeroCells zK.cells (grownCap w n 0 92-n)) 92:=(CS (NB _ w) 1).alloc (rP _) _;generalize w.drew.alloc (.cells (Builtin.zeroCells zK.cells n++Builtin.zeroCells zK.cells (grownCap w n 0 92-n)) 92)=aw at G J O;generalize grownCap w n 0 92=c at G ap I J;have az:decide (0<n)=true:=NY oM;have aA:=NY oM;unfold maxLen at I;go_enter func77,ntmps77;go_wp2_with (at_builtin;refine Lib.wpList_append_run _ rfl _ _ _ _ rfl _ _ rfl rfl _ _ (G _) ?_)
 go_wp2;go_ret;exact⟨⟨_,rfl,J⟩,O⟩
structure Pt where
 a:Option Addr
 c:Nat
 l:Ch
def DY:List Pt->Ch
 |[]=>[]
 |p::ps=>p.l++DY ps
theorem QP:∀A B:List Pt,DY (A++B)=DY A++DY B
 |[],_=>rfl
 |p::A,B=>by simp[DY,QP A B]
theorem UT{G:List Pt}{p:Pt}(h:G[k]? =some p):DY (G.take<|k+1)=DY (G.take k)++p.l:=by grind [CO,QP,DY]
theorem j5(G:List Pt)(k:Nat):(DY<|G.take k).length<=(DY G).length:=by grind [QP,CR]
theorem Ux(Z cp:Nat)(G:List Pt)(w:World)(bk:G.length<=10)(az:(DY G).length<=1000)
 (al:∀i p,G[i]? =some p->w.cell? (aD Z i)=some (.slice p.a p.l.length p.c)/\Dh w.cell? p.a p.l):
 Calls prog 257 #[sL Z 0 G.length cp] w λe w'=>(∃v,e=.returned v/\w'.ownsRow w.heap.size 92 9 v (DY G).length (Bd<|DY G))/\Below w.heap.size w w':=by
 obtain⟨aA,a1,a6,a7,a8⟩:=EL Tryz.infoK;have ao:=hid al;have ap:=hid<|j5 G;clear al;go_enter func257,ntmps257;go_wp2;go_loop [11,3] (λi s=>∃k:Nat,k<=G.length/\i=iN k/\s=iN (DY<|G.take k).length) (λi _=>G.length-(intOf i).toNat)
 case atStart=>exact⟨0,N7 _,rfl,rfl⟩
 case round=>
  obtain⟨k,ba,rfl,rfl⟩:=hrel;by_cases ab:k<G.length
  .obtain⟨p,O⟩:∃p,G[k]? =some p:=⟨G[k],by simp[ab]⟩
   obtain⟨q,_⟩:=ao k p O;have bb:(k:Int)<(G.length:Int):=by omega
   have J:=hid<|UT O;have ad:(DY<|G.take k).length+p.l.length<=1000:=by
    have:=ap.out<|k+1;rw[J.out,N6]at this;omega
   have ar:Hid<|(DY<|G.take<|k+1).length=(DY<|G.take k).length+p.l.length:=by show _=_;rw[J.out,N6]
   generalize(DY<|G.take k).length=s at ad ar⊢;go_wp2;go_round
   case rel=>exact⟨k+1,by omega,by go_num,by rw[ar.out];go_num⟩
   case measure=>simp[intOf];omega
  .have ak:G.take k=G:=R3 oM
   rw[ak];go_wp2_with fail
   go_call VQ _ _ az as e w1 ⟨⟨v,rfl,H⟩,I⟩
   go_wp2;go_loopw [27,6] (λi s wr=>∃k:Nat,k<=G.length/\i=iN k/\wr.ownsRow w.heap.size 92 9 s (DY<|G.take k).length (Bd<|DY<|G.take k)/\Below w.heap.size w wr) (λi _ _=>G.length-(intOf i).toNat)
   case atStart=>exact⟨0,N7 _,rfl,H,I⟩
   case round=>
    obtain⟨k,ba,rfl,H,I⟩:=hrel;by_cases ab:k<G.length
    .obtain⟨p,O⟩:∃p,G[k]? =some p:=⟨G[k],by simp[ab]⟩
     obtain⟨q,bd⟩:=ao k p O;have bb:(k:Int)<(G.length:Int):=by omega
     have J:=hid<|UT O;have ad:(DY<|G.take k).length+p.l.length<=1000:=by
      have:=ap.out<|k+1;rw[J.out,N6]at this;omega
     have q2:Ce wr Z k<|.slice p.a p.l.length p.c:=(I.cell (p:=(aD Z k))<|bL q).trans q;have aw:=I.size;have be:=bd.on<|Ai I;generalize DY (G.take k)=P at ad J H⊢;go_wp2_with (at_builtin;refine DP _ rfl (.tmp 31) (.tmp 32) 29 rfl w.heap.size 92 aA zK 9 120 underlying29 a1 a6 a7 a8 rfl oD _ P.length (Bd P) rfl H p.a p.l.length p.c (Bd p.l) rfl (IQ p.l) (UZ be) (PC _) (by unfold maxLen;omega) oM aw ?_)
     intro bl bn bf bg _;have bi:=I.grown bg aw λq e=>(H.lt q e).1;go_wp2;go_roundw
     case rel=>exact⟨k+1,by omega,by go_num,by rw[J.out,N6,MD];exact bf,bi⟩
     case measure=>simp[intOf];omega
    .have ak:G.take k=G:=R3 oM
     rw[ak]at H;go_wp2;go_ret;exact⟨⟨_,rfl,H⟩,I⟩
theorem kz(L:Ch)(k:Nat):Bd (L.take k)=(Bd L).take (k*9):=by grind [MD,CR,IQ]
theorem ke(L:Ch)(k:Nat):Bd (L.drop k)=(Bd L).drop (k*9):=by
 by_cases G:k<=L.length
 .have h:=MD (L.take k) (L.drop k)
  grind [CR,IQ]
 all_goals grind [R8,Bd,IQ]
theorem Dh.take{L:Ch}(h:Dh c a L)(k:Nat):Dh c a<|L.take k:=by
 obtain⟨H,I⟩:=h;refine⟨?_,λe J=>I e<|List.mem_of_mem_take J⟩;rcases H with rfl|⟨b,O,Z,ab⟩
 .exact .inl oS
 .refine .inr ⟨b,O,Z,λj u G=>ab j u ?_⟩
  rw[kz,Kp]at G;split at G
  .exact G
  .cases G
theorem Dh.drop{L:Ch}(h:Dh c a L)(k:Nat):Dh c (a.map (·.add (k*9)))<|L.drop k:=by
 obtain⟨H,I⟩:=h;refine⟨?_,λe J=>I e<|List.mem_of_mem_drop J⟩;rcases H with rfl|⟨b,O,rfl,Z⟩
 .exact .inl oS
 .refine .inr ⟨b,O+k*9,by simp[Ef],λj u G=>?_⟩
  rw[ke,Kq]at G;have:=Z _ u G;rw[<-Nat.add_assoc]at this;exact this
theorem Dh.none{L:Ch}(h:L.length=0):Dh c a L:=by
 have:=R0 h;subst this;exact⟨.inl rfl,λe G=>by cases G⟩
def Gp(m:BA)(x:Nd)(h:Hd)(L:Ch):Ch:=
 if BV m (bare L) 0<0 then L.take (Fg m<|bare L)++([(m,x,h)]++L.drop (Fg m<|bare L))else L.take (BV m (bare L) 0).toNat++([(m,x,h)]++L.drop ((BV m (bare L) 0).toNat+1))
def GY(m:BA)(L:Ch):Ch:=L.take (BV m (bare L) 0).toNat++L.drop ((BV m (bare L) 0).toNat+1)
theorem kU(m:BA)(x:Nd)(h:Hd)(L:Ch):bare (Gp m x h L)=NQ m x (bare L):=by
 unfold Gp NQ;split<;>simp[bare]
theorem j8(m:BA)(L:Ch):bare (GY m L)=NN m (bare L):=by
 unfold GY NN;rw[cy,fA,gK]
theorem mh{m:BA}{x:Nd}{h:Hd}{L:Ch}{e:BA×Nd×Hd}(G:e∈Gp m x h L):e=(m,x,h)\/e∈L:=by grind [Gp]
theorem nD{m:BA}{L:Ch}{e:BA×Nd×Hd}(G:e∈GY m L):e∈L:=by grind [GY]
theorem nX(m:BA)(x:Nd)(h:Hd)(L:Ch):(Gp m x h L).length<=L.length+1:=by
 unfold Gp;split<;>simp<;>omega
theorem mN(m:BA)(L:Ch):(GY m L).length<=L.length:=by
 unfold GY;simp;omega
def FZ(c:Option<|Nd×Hd)(m:BA)(L:Ch):Except Int Ch:=match c with
 |some p=>if Bf m=false then .error 4 else .ok (Gp m p.1 p.2 L)
 |none=>if BV m (bare L) 0<0 then .error 5 else .ok (GY m L)
theorem js(c:Option<|Nd×Hd)(m:BA)(L:Ch):J2 (c.map (·.1)) m (bare L)=match FZ c m L with|.error f=>.error f|.ok M=>.ok<|bare M:=by cases c<;>grind [J2,FZ,j8,kU]
def NC(c:Option<|Nd×Hd)(m:BA)(L:Ch)(w w':World)(e:Ending):Prop:=
 ((∃f,FZ c m L=.error f/\f≠0/\e=.returned (.tuple #[nL,.iface 101<|iN f]))\/∃M v,FZ c m L=.ok M/\e=.returned (.tuple #[v,.nilIface])/\w'.ownsRow w.heap.size 92 9 v M.length (Bd M))/\Below w.heap.size w w'
theorem jG(H:Nat)(A B C:Pt)(L:Ch)(w:World)(J:L=A.l++(B.l++C.l))(O:L.length<=1000)
 (Z:w.cell? (aD H 0)=some (.slice A.a A.l.length A.c)) (ab:w.cell? (aD H 1)=some (.slice B.a B.l.length B.c)) (ad:w.cell? (aD H 2)=some (.slice C.a C.l.length C.c))
 (ak:Dh w.cell? A.a A.l) (al:Dh w.cell? B.a B.l) (ao:Dh w.cell? C.a C.l):
 Calls prog 257 #[sL H 0 3 3] w λe w'=>(∃v,e=.returned v/\w'.ownsRow w.heap.size 92 9 v L.length (Bd L))/\Below w.heap.size w w':=by
 have I:DY [A,B,C]=L:=by rw[J];simp[DY]
 have:=Ux H 3 [A,B,C] w oS (by rw[I];exact O) (by
  intro i p G;match i with
  |0=>simp at G;subst G;exact⟨Z,ak⟩
  |1=>simp at G;subst G;exact⟨ab,al⟩
  |2=>simp at G;subst G;exact⟨ad,ao⟩
  |j+3=>simp at G)
 rw[I]at this;exact this
theorem iT(H:Nat)(A B:Pt)(L:Ch)(w:World)(J:L=A.l++B.l)(O:L.length<=1000)
 (Z:w.cell? (aD H 0)=some (.slice A.a A.l.length A.c)) (ab:w.cell? (aD H 1)=some (.slice B.a B.l.length B.c))
 (ad:Dh w.cell? A.a A.l) (ak:Dh w.cell? B.a B.l):
 Calls prog 257 #[sL H 0 2 2] w λe w'=>(∃v,e=.returned v/\w'.ownsRow w.heap.size 92 9 v L.length (Bd L))/\Below w.heap.size w w':=by
 have I:DY [A,B]=L:=by rw[J];simp[DY]
 have:=Ux H 2 [A,B] w oS (by rw[I];exact O) (by
  intro i p G;match i with
  |0=>simp at G;subst G;exact⟨Z,ad⟩
  |1=>simp at G;subst G;exact⟨ab,ak⟩
  |j+2=>simp at G)
 rw[I]at this;exact this
theorem iQ(a:Option Addr)(cap:Nat)(L:Ch)(m:BA)(w:World)(ao:L.length<=1000)(ba:L.length<=cap)(bb:cap<=9223372036854775807)(h:Dh w.cell? a L):
 Calls prog 256 #[.slice a L.length cap,.string m] w λe w'=>NC none m L w w' e:=by
 have ad:=λW (I:Dh W.cell? a L)=>OL a cap (bare L) m W (by rw[GP];exact ao)<|LO I;rw[GP]at ad
 have ak:=hid ad;have ap:=KE m (bare L) 0;rcases ap with⟨al,_⟩|⟨p,x,J,hx,_⟩
 .have Z:Hid<|BV m (bare L) 0=-1:=al
  have ab:Hid<|FZ none m L=.error 5:=by show _=_;simp[FZ,al]
  go_enter func256,ntmps256;go_wp2_with fail
  go_call ak _ h as e w1 ⟨rfl,hB⟩
  rw[Z.out];go_wp2;go_ret2;exact⟨.inl ⟨5,ab,by decide,rfl⟩,hB⟩
 .rw[RT]at J
  have bd:p<L.length:=by have:=(NE.1 hx).1;rwa [GP]at this
  have Z:=hid J;have ar:Hid<|GY m L=L.take p++L.drop (p+1):=by show _=_;unfold GY;rw[J];rfl
  have ab:Hid<|FZ none m L=.ok (GY m L):=by
   show _=_;simp only[FZ];rw[J,NO oM]
  have aw:Hid<|(GY m L).length<=1000:=by have:=mN m L;show _<=_;omega
  have p1:(0:Int)<=(p:Int):=by omega
  have p2:(p:Int)<=(L.length:Int):=by omega
  have p3:(p:Int)<=(cap:Int):=by omega
  have be:(p:Int)+1<=(L.length:Int):=by omega
  have bf:(0:Int)<=(p:Int)+1:=by omega
  have bg:IntKind.i64.wrap ((p:Int)+1)=(p:Int)+1:=DQ oM oM;have az:(L.take p).length=p:=by simp;omega
  have aA:Hid (∀(W:World) (G:Nat),Dh W.cell? a L->Ce W G 0 (.slice a p cap)->Ce W G 1 (.slice (if cap=p+1 then a else a.map (·.add ((p+1)*9))) (L.length-(p+1))<|cap-(p+1))->cL 257 #[sL G 0 2 2] W λe w'=>(∃v,e=.returned v/\w'.ownsRow W.heap.size 92 9 v (GY m L).length (Bd<|GY m L))/\Below W.heap.size W w'):=by
   intro W G I a1 a6;have O:Dh W.cell? (if cap=p+1 then a else a.map (·.add ((p+1)*9)))<|L.drop<|p+1:=by
    split
    .exact Dh.none (by simp;omega)
    .exact I.drop<|p+1
   exact iT G ⟨a,cap,L.take p⟩ ⟨if cap=p+1 then a else a.map (·.add ((p+1)*9)),cap-(p+1),L.drop<|p+1⟩ (GY m L) W ar.out aw (by rw[az];exact a1) (by rw[show(L.drop<|p+1).length=L.length-(p+1) by simp];exact a6) (I.take p) O
  go_enter func256,ntmps256;go_wp2_with fail
  go_call ak _ h as e w1 ⟨rfl,hB⟩
  rw[Z.out];have c0:Ce (w1.drew.alloc<|.cells #[.slice a p cap,.slice (if cap=p+1 then a else a.map (·.add ((p+1)*9))) (L.length-(p+1))<|cap-(p+1)] 29) w1.heap.size 0<|.slice a p cap:=aC;have c1:Ce (w1.drew.alloc<|.cells #[.slice a p cap,.slice (if cap=p+1 then a else a.map (·.add ((p+1)*9))) (L.length-(p+1))<|cap-(p+1)] 29) w1.heap.size 1<|.slice (if cap=p+1 then a else a.map (·.add ((p+1)*9))) (L.length-(p+1))<|cap-(p+1):=aC;have H:Below w.heap.size w<|w1.drew.alloc<|.cells #[.slice a p cap,.slice (if cap=p+1 then a else a.map (·.add ((p+1)*9))) (L.length-(p+1))<|cap-(p+1)] 29:=(CS hB 1).alloc hB.size _;have O:=h.on<|Ai H;go_wp2_with fail
  go_region_held3 (λ_=>True) (trivial) (first|(go_at_call 257;go_call aA.out _ _ O c0 c1 as e w2 ⟨⟨v,rfl,g1⟩,hB4⟩;generalize(if cap=p+1 then a else a.map (·.add ((p+1)*9)))=bi at O c0 c1 H hB4 g1⊢))
  all_goals
   have a7:=H.trans<|hB4.mono H.size;have a8:=g1.mono H.size;go_wp2;go_ret2;exact⟨.inr ⟨_,_,ab,rfl,a8⟩,a7⟩
theorem jg(a:Option Addr)(cap H:Nat)(x:Nd)(hx:Hd)(L:Ch)(m:BA)(w:World)(bx:L.length<=900)(bA:L.length<=cap)(bB:cap<=9223372036854775807)(h:Dh w.cell? a L)(al:Cm w H x hx)(bb:Am w.cell? x hx):
 Calls prog 260 #[.slice a L.length cap,.string m,pO H 0] w λe w'=>NC (some (x,hx)) m L w w' e:=by
 have⟨t,ht⟩:∃t,Bf m=t:=⟨_,rfl⟩;have ar:=hid ht;cases t
 .have ao:Hid<|FZ (some (x,hx)) m L=.error 4:=by show _=_;simp[FZ,ht]
  go_enter func260,ntmps260;go_wp2_with fail
  go_call Iw m _ as e w' ⟨rfl,rfl⟩
  rw[ar.out];go_wp2;go_ret2;exact⟨.inl ⟨4,ao,by decide,rfl⟩,NB _ _⟩
 have ao:Hid<|FZ (some (x,hx)) m L=.ok (Gp m x hx L):=by show _=_;simp[FZ,ht]
 have bd:Hid<|(Gp m x hx L).length<=1000:=by have:=nX m x hx L;show _<=_;omega
 have a6:Hid (∀W,Dh W.cell? a L->cL 228 #[.slice a L.length cap,.string m] W λe w'=>e=.returned (iN<|BV m (bare L) 0)/\Below W.heap.size W w'):=by
  intro W Z;have:=OL a cap (bare L) m W (by rw[GP];omega)<|LO Z;rwa [GP]at this
 have be:Hid (∀W,Dh W.cell? a L->cL 261 #[.slice a L.length cap,.string m] W λe w'=>e=.returned (iN<|Fg m<|bare L)/\Below W.heap.size W w'):=by
  intro W Z;have:=gR a cap (bare L) m W (by rw[GP];omega)<|LO Z;rwa [GP]at this
 have⟨k,mo,u,g,o,rL,d,ks⟩:=x;have ab:Hid (∀(G:World) (p q:Nat),Bw w G->p<=L.length->q<=L.length->Gp m (.mk k mo u g o rL d ks) hx L=L.take p++([(m,(.mk k mo u g o rL d ks),hx)]++L.drop q)->cL 257 #[sL (G.heap.size+1) 0 3 3] ((G.drew.alloc<|DM m k mo u g o hx rL d ks).alloc<|.cells #[.slice a p cap,sL G.heap.size 0 1 1,.slice (if cap=q then a else a.map (·.add (q*9))) (L.length-q)<|cap-q] 29) λe w'=>(∃v,e=.returned v/\w'.ownsRow w.heap.size 92 9 v (Gp m (.mk k mo u g o rL d ks) hx L).length (Bd<|Gp m (.mk k mo u g o rL d ks) hx L))/\Bw w w'):=by
  intro G p q I J bC bf;generalize bg:Obj.cells #[.slice a p cap,sL G.heap.size 0 1 1,.slice (if cap=q then a else a.map (·.add (q*9))) (L.length-q)<|cap-q] 29=ad;have hb:Bw _<|(G.drew.alloc<|DM m k mo u g o hx rL d ks).alloc ad:=bN;have a7:Bw w<|G.drew.alloc<|DM m k mo u g o hx rL d ks:=(CS I 1).alloc I.size _;have ak:=a7.trans<|hb.mono a7.size;have aw:∀i v,(#[.slice a p cap,sL G.heap.size 0 1 1,.slice (if cap=q then a else a.map (·.add (q*9))) (L.length-q)<|cap-q]:Array Value)[i]? =some v->Ce ((G.drew.alloc<|DM m k mo u g o hx rL d ks).alloc ad) (G.heap.size+1) i v:=by
   intro i v bi;rw[<-bg];exact(rO _ _ _ _ (by rw[ND];rfl)).trans bi
  have Z:=h.on<|Ai ak;have bk:Dh ((G.drew.alloc<|DM m k mo u g o hx rL d ks).alloc ad).cell? (if cap=q then a else a.map (·.add (q*9)))<|L.drop q:=by
   split
   .exact Dh.none (by simp;omega)
   .exact Z.drop q
  have kd:Ep ((G.drew.alloc<|DM m k mo u g o hx rL d ks).alloc ad).cell? G.heap.size 0 m (.mk k mo u g o rL d ks) hx:=Ep.below ⟨aC,aC,aC,aC,aC,aC,aC,aC,aC⟩ hb;have bl:Dh ((G.drew.alloc<|DM m k mo u g o hx rL d ks).alloc ad).cell? (some<|aD G.heap.size 0) [(m,(.mk k mo u g o rL d ks),hx)]:=by
   refine⟨.inr ⟨G.heap.size,0,rfl,λj v bn=>?_⟩,λe a8=>by simp at a8;subst a8;exact bb.ab ak⟩;exact JY.1 kd j v (by simpa [Bd]using bn)
  go_call jG (G.heap.size+1) ⟨a,cap,L.take p⟩ ⟨some<|aD G.heap.size 0,1,[(m,(.mk k mo u g o rL d ks),hx)]⟩ ⟨if cap=q then a else a.map (·.add (q*9)),cap-q,L.drop q⟩ _ _ bf bd (by rw[show(L.take p).length=p by simp;omega];exact aw 0 _ rfl) (aw 1 _ rfl) (by rw[show(L.drop q).length=L.length-q by simp];exact aw 2 _ rfl) (Z.take p) bl bk as e w2 ⟨⟨v,rfl,g1⟩,hB4⟩
  exact⟨⟨v,rfl,g1.mono ak.size⟩,ak.trans<|hB4.mono ak.size⟩
 rcases KE m (bare L) 0 with⟨ba,_⟩|⟨p,x,J,bo,_⟩
 .have az:Hid<|BV m (bare L) 0=-1:=ba
  have⟨p,J⟩:∃p,Fg m (bare L)=p:=⟨_,rfl⟩;have aA:Hid<|Gp m (.mk k mo u g o rL d ks) hx L=L.take p++([(m,.mk k mo u g o rL d ks,hx)]++L.drop p):=by
   show _=_;unfold Gp;rw[NS (by rw[ba];decide),J]
  have ap:p<=L.length:=by have:=nN m<|bare L;rw[GP]at this;omega
  have a1:=ap;have bp:=hid J;have p1:(0:Int)<=(p:Int):=by omega
  have p2:(p:Int)<=(L.length:Int):=by omega
  have p3:(p:Int)<=(cap:Int):=by omega
  go_enter func260,ntmps260;go_wp2_with fail
  go_call Iw m _ as e w' ⟨rfl,rfl⟩
  rw[ar.out];go_wp2_with fail
  go_call a6 _ h as e w0 ⟨rfl,hB0⟩
  rw[az.out];have bq:=h.on<|Ai hB0;go_wp2_with fail
  go_call be _ bq as e G ⟨rfl,hB01⟩
  rw[bp.out];have I:=hB0.trans<|hB01.mono hB0.size;have O:=al.below<|CS I 1;have ab:=hid<|ab.out G p (p) I ap a1 aA.out;have⟨y0,y1,y2,y3,y4,y5,y6,y7⟩:=id O;go_wp2_with fail
  go_region_held3 (λw'=>Ce w' H 0 (iN k)/\Ce w' H 1 (iN mo)/\Ce w' H 2 (iN u)/\Ce w' H 3 (iN g)/\Ce w' H 4 (.bool o)/\Ce w' H 5 (.slice hx.aa rL.length hx.ca)/\Ce w' H 6 (.string d)/\Ce w' H 7 (.slice hx.ak ks.length hx.ck)) (first|assumption|exact O.below bN|exact(O.below bN).below bN) (first|(go_at_call 257;go_call ab.out as e w2 ⟨⟨v,rfl,g1⟩,hB4⟩;have bs:=al.below hB4;generalize(if cap=p then a else a.map (·.add ((p)*9)))=bu))
  all_goals
   go_wp2;go_ret2;exact⟨.inr ⟨_,_,ao,rfl,g1⟩,hB4⟩
 .rw[RT]at J
  have bF:p<L.length:=by have:=(NE.1 bo).1;rwa [GP]at this
  have az:=hid J;have aA:Hid<|Gp m (.mk k mo u g o rL d ks) hx L=L.take p++([(m,.mk k mo u g o rL d ks,hx)]++L.drop (p+1)):=by
   show _=_;unfold Gp;rw[NO (by rw[J];omega),J];rfl
  have ap:p<=L.length:=by omega
  have a1:p+1<=L.length:=by omega
  have p1:(0:Int)<=(p:Int):=by omega
  have p2:(p:Int)<=(L.length:Int):=by omega
  have p3:(p:Int)<=(cap:Int):=by omega
  have bG:(p:Int)+1<=(L.length:Int):=by omega
  have bH:(0:Int)<=(p:Int)+1:=by omega
  have bY:IntKind.i64.wrap ((p:Int)+1)=(p:Int)+1:=DQ oM oM;have b0:decide ((p:Int)<0)=false:=NM oM;go_enter func260,ntmps260;go_wp2_with fail
  go_call Iw m _ as e w' ⟨rfl,rfl⟩
  rw[ar.out];go_wp2_with fail
  go_call a6 _ h as e G ⟨rfl,I⟩
  rw[az.out];have O:=al.below<|CS I 1;have ab:=hid<|ab.out G p (p+1) I ap a1 aA.out;have⟨y0,y1,y2,y3,y4,y5,y6,y7⟩:=id O;go_wp2_with fail
  go_region_held3 (λw'=>Ce w' H 0 (iN k)/\Ce w' H 1 (iN mo)/\Ce w' H 2 (iN u)/\Ce w' H 3 (iN g)/\Ce w' H 4 (.bool o)/\Ce w' H 5 (.slice hx.aa rL.length hx.ca)/\Ce w' H 6 (.string d)/\Ce w' H 7 (.slice hx.ak ks.length hx.ck)) (first|assumption|exact O.below bN|exact(O.below bN).below bN) (first|(go_at_call 257;go_call ab.out as e w2 ⟨⟨v,rfl,g1⟩,hB4⟩;have bs:=al.below hB4;generalize(if cap=p+1 then a else a.map (·.add ((p+1)*9)))=bu))
  all_goals
   go_wp2;go_ret2;exact⟨.inr ⟨_,_,ao,rfl,g1⟩,hB4⟩
end Go.Proofs.YtchpdmjlicmdaaaGreatDoor
