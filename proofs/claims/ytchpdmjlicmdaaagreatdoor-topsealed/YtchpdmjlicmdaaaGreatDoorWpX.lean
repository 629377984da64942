/- Part: Wp Mh Fa Fc Nc Ka Abc Kb Kc Ua Wj. -/
import Derived.Test.YtchpdmjlicmdaaaGreatDoorMdX
import Derived.Deep.LoopGhost
set_option maxRecDepth 100000
set_option maxHeartbeats 16000000
namespace Go.Proofs.YtchpdmjlicmdaaaGreatDoor
open Go.RowKit Go.Proofs.Tryz
variable {c:Option Nd}{l:List BA}{G H b k n p:Nat}{S:Nat->Bool}{W w w' wr:World}{x x0 y z:Nd}{I h:Hd}{m nm:BA}{o:Option Int}{v:Value}
def Bi(c:AR)(a:Option Addr)(l:List BA):Prop:=l=[]\/∃b G,a=some (aD b G)/\∀i s,l[i]? =some s->c (aD b<|G+i)=some (.string s)
theorem Bi.on{c G:AR}{a:Option Addr}(h:Bi c a l)(hb:AW c G):Bi G a l:=by
 rcases h with h|⟨b,H,I,J⟩
 .exact .inl h
 .exact .inr ⟨b,H,I,λi s O=>hb _ _<|J i s O⟩
theorem Nd.eta(x:Nd):x.with x.kids=x:=by obtain⟨k,m,u,g,o,rL,d,ks⟩:=x;rfl
def Hs(G:Nat)(S:Nat->Bool):Nat->Bool:=λk=>k==G+1||S k
theorem PI:Hs G S k=false↔k≠G+1/\S k=false:=by simp[Hs]
theorem PH(hb:Below W.heap.size W w')(J:W.heap.size=G):AW (Ag W.cell? S)<|Ag w'.cell?<|Hs G S:=Bv λk H I=>⟨PI.2 ⟨by omega,I⟩,hb.block k H⟩
theorem jk{c:AR}(G:S b=false)(H:A9 c b p x h):A9 (Ag c S) b p x h:=by grind [GR,CV]
structure Iy (W wr:World) (S:Nat->Bool) (nb:Nat) (x0:Nd) (c:Option Nd) (l rM:List BA) (ab ap:Nat) (y:Nd) (hy:Hd):Prop where
 low:Below W.heap.size W wr
 sz:W.heap.size=nb
 res:AC wr (nb+1) zN zH
 atc:A9 wr.cell? ab ap y hy
 fz:∀q,wr.frozen? (aD ab q)=false
 ge:nb<=ab
 ne:ab≠nb+1
 hS:∀k,S k=true->k<W.heap.size
 tree:Am (Ag W.cell? S) y hy
 wand:∃plug:Nd->Nd,(A3 c l x0=(A3 c rM y).map plug)/\∀w',Below W.heap.size W w'->(∀q v,wr.cell? q=some v->(∀i,i<8->q≠(aD ab<|ap+i))->w'.cell? q=some v)->∀z hz,A9 w'.cell? ab ap z hz->Am (Ag w'.cell?<|Hs nb S) z hz->∃hr,Cm w' nb (plug z) hr/\Am (Ag w'.cell?<|Hs nb S) (plug z) hr
theorem A9.lt(G:A9 w.cell? b p x h):b<w.heap.size:=by
 obtain⟨k,m,u,g,o,rL,d,ks⟩:=x;exact bL G.1
theorem Iy.start(I:Below W.heap.size W wr)(sz:W.heap.size=G)(J:AC wr (G+1) zN zH)(H:AC wr G x0 h)(O:∀k,S k=true->k<W.heap.size)(Z:Am (Ag W.cell? S) x0 h):Iy W wr S G x0 c l l G 0 x0 h:=by
 refine⟨I,sz,J,H.1.at,H.2,rP _,by omega,O,Z,id,?_,?_⟩
 .cases A3 c l x0<;>rfl
 .intro w' _ _ z ab ad ak
  exact⟨ab,ad.box,ak⟩
theorem WM{G:Hd}(h:A9 w.cell? b p y G)(H:Ay)(I:Option Addr)(ck:Nat):A9 (w.setCell (aD b<|p+7)<|.slice I H.length ck).cell? b p (y.with H) ⟨G.aa,G.ca,I,ck⟩:=by
 obtain⟨k,m,u,g,o,rL,d,ks⟩:=y;obtain⟨J,O,Z,ab,ad,ak,al,ao⟩:=h;have e:∀o,o≠p+7->(w.setCell (aD b<|p+7)<|.slice I H.length ck).cell? (aD b o)=w.cell? (aD b o):=λo ap=>NG _ _ _ _ λe=>ap (Addr.mk.inj e).2.1.symm;exact⟨(e _ oM).trans J,(e _ oM).trans O,(e _ oM).trans Z,(e _ oM).trans ab,(e _ oM).trans ad,(e _ oM).trans ak,(e _ oM).trans al,N2 _ _ _ ao⟩
theorem lK{G:BA}{rM:List BA}(H:y.kind=2)(I:BV m y.kids 0=(p:Int))(J:y.kids[p]? =some (m,z)):A3 c (m::G::rM) y=(A3 c (G::rM) z).map λq=>y.with<|y.kids.set p (m,q):=by grind [A3,Nd.kid]
theorem Iy.step{O:World}{aw:Nat}{rM:List BA}{az:BA}{aA:Hd}{L:Ch}{base g ck:Nat}{ao:Hd}(h:Iy W wr S aw x0 c l (m::az::rM) G H y aA)(hb:Below wr.heap.size wr O)(c8:wr.heap.size<=base)
 (a1:bare L=y.kids) (bg:∀e∈L,Am (Ag W.cell? S) e.2.1 e.2.2) (bu:y.kind=2) (bx:BV m y.kids 0=(p:Int)) (ap:L[p]? =some (m,z,ao)) (bA:O.ownsRow base 92 9 (sL g 0 y.kids.length ck) y.kids.length<|Bd L):
 Iy W (O.setCell (aD G<|H+7)<|sL g 0 y.kids.length ck) S aw x0 c l (az::rM) g (p*9+1) z ao:=by
 obtain⟨bB,bC,bF⟩:=h.wand;have c9:=h.atc.lt;obtain⟨a0,c0,ab,bG,bH,bY⟩:=Ev bA;simp only[CH,true_and]at ab;obtain⟨rfl,rfl⟩:=ab;rcases bY with⟨e,_⟩|⟨da,e,dd,de,b0,b1⟩
 .cases e
 simp only[RV,Cj,and_true]at e;subst e;have I:g≠G:=by omega
 have dg:W.heap.size<=g:=by have:=h.low.size;omega
 have a6:Hs aw S g=false:=PI.2 ⟨by have:=h.res.1.lt;omega,by
  cases hs:S g with
  |false=>rfl
  |true=>have:=h.hS g hs;omega⟩
 have b2:y.kids[p]? =some (m,z):=by
  rw[<-a1];unfold bare;rw[R6,ap];rfl
 have bi:∀q:Addr,q≠(aD G<|H+7)->(O.setCell (aD G<|H+7)<|sL g 0 y.kids.length ck).cell? q=O.cell? q:=λq ad=>NG _ _ _ _ λe=>ad e.symm;have bk:∀j u,(Bd L)[j]? =some u->Ce (O.setCell (aD G<|H+7)<|sL g 0 y.kids.length ck) g j u:=λj u a7=>(bi _ λe=>I (Addr.mk.inj e).1).trans<|b0 j u a7
 have b4:Below W.heap.size W<|O.setCell (aD G<|H+7)<|sL g 0 y.kids.length ck:=(h.low.trans<|hb.mono h.low.size).setCell (p:=(aD G<|H+7)) (by show W.heap.size<=G;have:=h.ge;have:=h.sz;omega) _;refine⟨b4,h.sz,(h.res.below hb).other (p:=(aD G<|H+7)) h.ne _,?_,λq=>by rw[Kn];exact b1 q,by have:=h.sz;omega,by have:=h.res.1.lt;omega,h.hS,bg _<|NW ap,?_⟩
 .refine GR.2 λq u ad=>?_
  have:=KA L p m z ao ap (q+1) u (by simpa using ad);have:=bk _ _ this;rw[show p*9+1+q=p*9+(q+1) by omega];exact this
 .refine⟨λq=>bB<|y.with<|y.kids.set p (m,q),?_,?_⟩
  .rw[bC,lK bu bx b2]
   cases A3 c (az::rM) z<;>rfl
  .intro w' a8 ad al bl b6 b7
   have bn:=WM (h.atc.below hb) y.kids (some<|aD g 0) ck;rw[Nd.eta]at bn;refine bF w' a8 ?_ (y.with<|y.kids.set p (m,al)) ⟨aA.aa,aA.ca,some<|aD g 0,ck⟩ ?_ ?_
   .intro q v ab ba
    have bb:q.block<wr.heap.size:=bL ab;refine ad q v ?_ λi J e=>?_
    .rw[bi q<|ba 7 oM];exact(hb.cell bb).trans ab
    .rw[e]at bb;simp at bb;omega
   .have Z:∀q v,(O.setCell (aD G<|H+7)<|sL g 0 y.kids.length ck).cell? q=some v->q.block≠g->w'.cell? q=some v:=λq v ab b9=>ad q v ab (λi J e=>b9<|by rw[e])
    obtain⟨k,ce,u,cf,o,rL,d,ks⟩:=y;obtain⟨ch,ak,cl,co,cr,cx,cD,cF⟩:=bn;have ar:(ks.set p (m,al)).length=ks.length:=List.length_set;refine⟨Z _ _ ch I.symm,Z _ _ ak I.symm,Z _ _ cl I.symm,Z _ _ co I.symm,Z _ _ cr I.symm,Z _ _ cx I.symm,Z _ _ cD I.symm,?_⟩;show w'.cell? _=some (.slice _ (ks.set p (m,al)).length _);rw[ar];exact Z _ _ cF I.symm
   .have c3:=h.tree
    obtain⟨k,ce,u,cf,o,rL,d,ks⟩:=y;obtain⟨c4,c5,t3,_⟩:=Cs.1 c3;have ar:(ks.set p (m,al)).length=ks.length:=List.length_set;refine Cs.2 ⟨c4.on<|PH a8 h.sz,c5,⟨by show(ks.set p (m,al)).length<=ck;rw[ar];exact bG,bH⟩,.inr ⟨g,0,rfl,λi=>if i=p then bl else((L[i]?).map λe=>e.2.2).getD bl,?_⟩⟩;intro i n bd J;dsimp only;change(ks.set p (m,al))[i]? =some (n,bd)at J;have bo:i<ks.length:=by have:=(NE.1 J).1;rwa [ar]at this
    have bp:i<L.length:=by have:=RX List.length a1;rw[GP]at this;show i<L.length;rw[this];exact bo
    have bq:∀j u,(Bd L)[j]? =some u->(∀q,q<8->j≠p*9+1+q)->Ce w' g j u:=λj u a7 ba=>ad _ _ (bk j u a7) λq c6 e=>ba q c6 (Addr.mk.inj e).2.1;by_cases bs:i=p
    .subst bs
     rw[List.getElem?_set_self bo]at J;simp only[RV,Prod.mk.injEq]at J;obtain⟨rfl,rfl⟩:=J;rw[NS rfl,RT];refine⟨⟨?_,jk a6 b6⟩,b7⟩;rw[CV a6];refine bq _ _ (by have:=KA L i m z ao ap 0 _ rfl;simpa using this) (λq be e=>by omega)
    .rw[List.getElem?_set_ne oM]at J
     have bf:L[i]? =some (n,bd,L[i].2.2):=by
      have ak:(bare L)[i]? =some (n,bd):=by rw[a1];exact J
      unfold bare at ak;rw[R6,NA bp]at ak;simp at ak;rw[NA bp];congr 1;exact Prod.ext ak.1<|Prod.ext ak.2 rfl
     rw[NO bs,bf];simp only[tx,Option.getD_some];rw[RT];refine⟨JY.2 λq u be=>?_,(bg _<|NW bf).on<|PH a8 h.sz⟩;rw[CV a6];have dj:q<9:=by have:=(NE.1 be).1;simp[Fb]at this;omega
     exact bq _ _ (KA L i _ _ _ bf q u be) (λr dk e=>by omega)
theorem Iy.fin{J:World}{Z:Nat}{ak:Hd}{M:Ch}{base ck:Nat}{I:Option Addr}(h:Iy W wr S Z x0 c l [m] G H y ak)(hb:Below wr.heap.size wr J)(bl:wr.heap.size<=base)
 (aw:∀e∈M,Am (Ag W.cell? S) e.2.1 e.2.2) (O:y.kind=2) (az:J2 c m y.kids=.ok (bare M)) (al:M.length=n) (aA:J.ownsRow base 92 9 (.slice I n ck) n<|Bd M):
 ∃r ab,A3 c l x0=.ok r/\Cm (J.setCell (aD G<|H+7)<|.slice I n ck) Z r ab/\Am (Ag (J.setCell (aD G<|H+7)<|.slice I n ck).cell?<|Hs Z S) r ab/\Below W.heap.size W (J.setCell (aD G<|H+7)<|.slice I n ck)/\AC (J.setCell (aD G<|H+7)<|.slice I n ck) (Z+1) zN zH:=by
 subst al;obtain⟨bn,a1,a6⟩:=h.wand;have bo:=h.atc.lt;have ad:Below W.heap.size W<|J.setCell (aD G<|H+7)<|.slice I M.length ck:=(h.low.trans<|hb.mono h.low.size).setCell (p:=(aD G<|H+7)) (by show W.heap.size<=G;have:=h.ge;have:=h.sz;omega) _;have a7:=LC aA (p:=(aD G<|H+7)) (show G<base by omega)<|.slice I M.length ck
 obtain⟨bp,bq,ao,a8,ba,bb,_⟩:=Ul (S:=Hs Z S) (λk O=>by
  simp[Hs]at O;rcases O with O|O
  .have:=h.res.1.lt;omega
  .have:=h.hS k O;have:=h.low.size;omega) a7 λe bd=>(aw e bd).on<|PH ad h.sz
 simp only[CH,true_and]at ao;obtain⟨rfl,rfl⟩:=ao;have ap:=WM (h.atc.below hb) (bare M) I ck;rw[GP]at ap;have be:Am (Ag (J.setCell (aD G<|H+7)<|.slice I M.length ck).cell?<|Hs Z S) (y.with<|bare M) ⟨ak.aa,ak.ca,I,ck⟩:=by
  have bf:=h.tree;obtain⟨k,bs,u,bu,o,rL,d,ks⟩:=y;obtain⟨bg,bi,t3,_⟩:=Cs.1 bf;exact Cs.2 ⟨bg.on<|PH ad h.sz,bi,⟨by rw[GP];exact a8,ba⟩,LO bb⟩
 obtain⟨ab,g1,bk⟩:=a6 _ ad (λq v ar al=>(NG _ _ _ _ λe=>al 7 oM e.symm).trans<|(hb.cell<|bL ar).trans ar) _ _ ap be;refine⟨_,ab,?_,g1,bk,ad,(h.res.below hb).other (p:=(aD G<|H+7)) h.ne _⟩;rw[a1,A3,NO<|by simp[O],az];rfl
open Go.Shelf
attribute [local go_sem] Oper.semAt_some
def AX(xs:List Nd)(ry:List BA):List<|Nd×Nat:=ry.foldl (λl nm=>A8<|BU nm l)<|A8<|A5 xs
theorem Lv{xs:List Nd}{ry:List BA}{i:Nat}(h:ry[i]? =some nm):AX xs (ry.take<|i+1)=A8 (BU nm<|AX xs<|ry.take i):=by grind [AX,CO]
theorem QN{xs:List Nd}(h:EM<|A5 xs):∀ry:List BA,EM<|AX xs ry:=by
 intro ry;unfold AX;generalize G:A8 (A5 xs)=l;have H:EM l:=by rw[<-G];exact h.sh
 clear G;induction ry generalizing l with
 |nil=>exact H
 |cons n r I=>rw[Ko];exact I _ (H.kid n).sh
theorem U4(a1 Z:Nat)(a:Option Addr)(cap:Nat)(xs:List Nd)(an:Option Addr)(rN:Nat)(ry:List BA)(l:Nat)(G:Nat->(Nat->Bool)->World->Prop)(a6:World->Prop)(W:World)(S:Nat->Bool)
 (bk:Ag W.cell? S (aD a1 0)=some (.slice a xs.length cap)) (a7:Ag W.cell? S (aD Z 0)=some (.slice an ry.length rN)) (hx:CP (Ag W.cell? S) a xs) (ab:Bi (Ag W.cell? S) an ry) (bl:xs.length<=1000) (bn:ry.length<=1000) (bo:EM<|A5 xs)
 (a8:∀i S A,G i S A->∀k,S k=true->k<A.heap.size) (ba:∀i S A B,G i S A->Below A.heap.size A B->G i S B)
 (bp:∀i S v A,i<=ry.length->G i S A->ES (Ag A.cell? S) v (AX xs<|ry.take i)->YieldAt Fence.wide 0 prog l #[v] A λe B=>(e=.returned (.bool true)/\∃S',G (i+1) S' B/\AW (Ag A.cell? S) (Ag B.cell? S'))\/(e=.returned (.bool false)/\a6 B))
 (bb:G 0 S W):
 CallsIn Fence.wide 0 prog 145 #[.func (.yield l) #[] #[],pO a1 0,pO Z 0] W λe B=>(∃v,e=.returned v)/\((∃S',G (ry.length+1) S' B)\/a6 B):=by
 refine callsIn_of_wp func145 rfl trivial ?_ rfl;simp only[ntmps145,List.size_toArray,R5,RC,Nat.reduceAdd,Nat.reduceSub,tH,tG,List.push_toArray,List.append_toArray,CN,Cd];have ad:Hid _:=bp;have co:Hid _:=hx;have bq:Hid _:=ab;have cr:Hid _:=a7;have bs:Hid _:=bo;obtain⟨N,ak⟩:=Aq ry.length;have cx:=BW _ _ _ _ bk;have bu:Ce W Z 0<|.slice an N rN:=by rw[<-ak.out];exact BW _ _ _ _ a7
 rw[ak.out]at bn ad⊢;have bx:Hid _:=dS (S:=S) (w:=W.alloc<|.cells #[.slice a xs.length cap] 115) (a8 _ _ _ bb) hx bl rfl;gi_wp2_with fail
 refine⟨trivial,rfl,CallsIn.mono (ts.2<|dU W a xs.length cap) ?_⟩;rintro e cD ⟨rfl,rfl⟩;gi_wp2_with fail
 refine⟨trivial,rfl,CallsIn.mono (ts.2 bx) ?_⟩;rintro e bA ⟨v0,rfl,bB,al⟩;have cF:=Ai al _ _ bu;have bC:=ba _ _ _ _ bb al;have bF:AW (Ag W.cell? S)<|Ag bA.cell? S:=Du al;have bG:=hid bB;gi_wp2_with fail
 gi_loopw [4,6,12] (λv _ i wr=>∃(j:Nat) (S':Nat->Bool),j<=N/\i=iN j/\G j S' wr/\Hid (ES (Ag wr.cell? S') v<|AX xs<|ry.take j)/\Hid (AW (Ag W.cell? S)<|Ag wr.cell? S')) (λ_ _ i _=>N-(intOf i).toNat)
 case atStart=>exact⟨0,S,N7 _,rfl,bC,bG,bF⟩
 case round=>
  obtain⟨j,S',c3,rfl,bd,ao,be⟩:=hrel;by_cases bH:j<N;rotate_left
  .obtain rfl:j=N:=by omega
   have bY:=NM oM;obtain⟨fn,tmps,assign,body,b0,ap⟩:=ad j S' _ wr oM bd ao;have ar:Hid _:=ap;gi_wp2
   refine⟨rfl,RoundIn.mono ar ?_⟩;rintro e I (⟨rfl,H,J,_⟩|⟨rfl,aw⟩)
   .gi_wp2
    go_end0
    exact⟨⟨_,rfl⟩,.inl ⟨H,J⟩⟩
   .gi_wp2
    go_end0
    exact⟨⟨_,rfl⟩,.inr aw⟩
  .have bY:decide ((j:Int)<(N:Int))=true:=NY oM
   obtain⟨nm,az⟩:∃nm,ry[j]? =some nm:=⟨_,NA (by rw[ak.out];exact bH)⟩;obtain⟨c4,c5,rfl,b1⟩:∃b bf,an=some (aD b bf)/\∀i s,ry[i]? =some s->Ag W.cell? S (aD b<|bf+i)=some (.string s):=by
    rcases bq.out with e|e
    .subst e;simp at az
    .exact e
   have c6:=BW _ _ _ _<|be.out _ _<|b1 j nm az;obtain⟨fn,tmps,assign,body,b0,ap⟩:=ad j S' _ wr oM bd ao;have ar:Hid _:=ap;have b2:Hid _:=az;obtain⟨va,vc,D,rfl,g1,c8,g3,g4,b4⟩:=ao.out;have O:Hid (Eh (Ag wr.cell? S') va D/\(∀s∈D,C8 (Ag wr.cell? S') s)/\D.map Sp.pr=AX xs (ry.take j)):=⟨g3,g4,b4⟩;gi_wp2
   refine⟨rfl,RoundIn.mono ar ?_⟩;rintro e I (⟨rfl,H,J,aA⟩|⟨rfl,aw⟩);rotate_left
   .gi_wp2
    refine NZ (results_none rfl _ _ _) rfl ?_;exact⟨⟨_,rfl⟩,.inr aw⟩
   have b6:Hid _:=aA;have b7:Hid _:=MG (A:=I) (S:=H) (cap:=vc) (w:=(I.alloc<|.cells #[.slice va D.length vc] 155).alloc<|.cells #[.string nm] 9) (a8 _ _ _ J) nm (O.1.on aA) (λs ab=>(O.2.1 s ab).on aA) (by rw[O.out.2.2];exact QN bs _) rfl;gi_wp2_with fail
   refine⟨trivial,rfl,CallsIn.mono (ts.2<|MB I va D.length vc nm) ?_⟩;rintro e c9 ⟨rfl,rfl⟩;gi_wp2_with fail
   refine⟨trivial,rfl,CallsIn.mono (ts.2 b7) ?_⟩;rintro e b9 ⟨da,rfl,bg,bi⟩;rw[O.out.2.2,<-Lv b2.out]at bg;have ce:Hid _:=bg;have cf:Hid<|AW (Ag W.cell? S)<|Ag b9.cell? H:=λq u ch=>Du bi _ _<|b6.out _ _<|be.out _ _ ch;have cl:=ba _ _ _ _ J bi
   gi_wp2
   go_roundw
   case rel=>exact⟨j+1,H,by omega,by go_num,cl,ce,cf.out⟩
   case measure=>(simp[intOf];try omega)
abbrev Bc:=List<|Nd×Nat
def Fq(nm:BA):Ay->Option Nd
 |[]=>none
 |p::l=>if p.1=nm then some p.2 else Fq nm l
theorem lS:∀{ks:Ay},(∀p∈ks,p.1≠nm)->Fq nm ks=none:=by intro ks;induction ks<;>grind [Fq]
theorem Xo:∀{ks:Ay} {j:Nat},ks[j]? =some (nm,x)->(∀q,q<j->∀p,ks[q]? =some p->p.1≠nm)->Fq nm ks=some x
 |[],j,h,_=>by simp at h
 |p::l,0,h,_=>by simp at h;rw[Fq,NS<|by rw[h]];rw[h]
 |p::l,j+1,h,k=>by
  rw[Fq,NO<|k 0 oM p rfl];exact Xo (j:=j) (by simpa using h) λq I G H=>k (q+1) oM G<|by simpa using H
theorem LR(nm:BA)(x:Nd):Ek nm x=Fq nm x.dirKs:=by
 obtain⟨k,m,u,g,o,rL,d,ks⟩:=x;unfold Ek JE;show(if(if k=2 then BV nm ks 0 else-1)<0 then none else(ks[((if k=2 then BV nm ks 0 else-1):Int).toNat]?).map (·.2))=Fq nm (if k=2 then ks else []);grind [KE,lS,Xo]
theorem O8:∀{ks:Ay},Fq nm ks=some y->(nm,y)∈ks:=by intro ks;induction ks<;>grind [Fq]
theorem MJ{p:BA×Nd}(h:p∈x.dirKs):p∈x.kids:=by grind [Nd.dirKs]
def IB(l:List BA):Prop:=l.Pairwise λa b=>Br a b=true
def Mf(nm:BA):List BA->List BA
 |[]=>[nm]
 |x::r=>if Br x nm=true then x::Mf nm r else if x=nm then x::r else nm::x::r
theorem WO(nm:BA):∀{l:List BA} {x:BA},x∈Mf nm l↔x=nm\/x∈l:=by intro l x;induction l generalizing x<;>grind [Mf]
theorem fZ(nm:BA):∀{l:List BA},IB l->IB (Mf nm l):=by intro l;induction l<;>grind [Mf,IB,CK.1,CK.2,WO,Kt,IV]
theorem WE:∀{a b:List BA},IB a->IB b->(∀x,x∈a↔x∈b)->a=b
 |[],[],_,_,_=>rfl
 |[],y::b,_,_,h=>by have:=(h y).2<|N4 ..;cases this
 |x::a,[],_,_,h=>by have:=(h x).1<|N4 ..;cases this
 |x::a,y::b,ha,hb,h=>by
  obtain⟨I,a2⟩:=CK.1 ha;obtain⟨J,Z⟩:=CK.1 hb;have ab:x=y:=by
   rcases R1.1 ((h x).1<|N4 ..)with e|e
   .exact e
   .rcases R1.1 ((h y).2<|N4 ..)with H|H
    .exact H.symm
    .have ad:=J x e
     have O:=I y H;rw[Rr ad]at O;cases O
  subst ab;congr 1;refine WE a2 Z λz=>?_;constructor
  .intro G
   rcases R1.1 ((h z).1<|R4 _ G)with e|e
   .subst e;have:=I z G;rw[Lw]at this;cases this
   .exact e
  .intro G
   rcases R1.1 ((h z).2<|R4 _ G)with e|e
   .subst e;have:=J z G;rw[Lw]at this;cases this
   .exact e
theorem Q9(h:IB l):l.Nodup:=List.Pairwise.imp (Np) h
def ZQ(l:Bc):List BA:=l.flatMap λq=>q.1.kids.map (·.1)
def Ci(l:Bc)(nm:BA):Bc:=A8<|BU nm l
def Lb(l:Bc)(G:List BA)(r:List BA):List BA:=r.foldl (λG nm=>if(Ci l nm).isEmpty=true then G else Mf nm G) G
theorem Xs(l:Bc):∀(r I:List BA) (x:BA),x∈Lb l I r↔x∈I\/(x∈r/\Ci l x≠[])
 |[],I,x=>by simp[Lb]
 |nm::r,I,x=>by
  unfold Lb;rw[Ko];show x∈Lb l _ r↔_;rw[Xs l r];by_cases h:(Ci l nm).isEmpty=true
  .rw[NS h]
   have h':Ci l nm=[]:=List.isEmpty_iff.1 h;constructor
   .rintro(G|⟨G,H⟩)
    .exact .inl G
    .exact .inr ⟨R4 _ G,H⟩
   .rintro(G|⟨G,H⟩)
    .exact .inl G
    .rcases R1.1 G with e|e
     .rw[e]at H;exact absurd h' H
     .exact .inr ⟨e,H⟩
  .rw[NO h,WO]
   have h':Ci l nm≠[]:=λe=>h<|List.isEmpty_iff.2 e;constructor
   .rintro((G|G)|⟨G,H⟩)
    .exact .inr ⟨by rw[G];exact N4 ..,by rw[G];exact h'⟩
    .exact .inl G
    .exact .inr ⟨R4 _ G,H⟩
   .rintro(G|⟨G,H⟩)
    .exact .inl<|.inr G
    .rcases R1.1 G with e|e
     .exact .inl<|.inl e
     .exact .inr ⟨e,H⟩
theorem eR(l:Bc):∀(r G:List BA),IB G->IB (Lb l G r):=by intro r G;induction r generalizing G<;>grind [Lb,fZ]
def C7(l:Bc):List BA:=Lb l []<|ZQ l
theorem Ov(l:Bc):IB<|C7 l:=eR l _ _ List.Pairwise.nil
theorem lM{l:Bc}(h:Ci l nm≠[]):nm∈ZQ l:=by
 cases hk:BU nm l with
 |nil=>exact absurd (by unfold Ci;rw[hk];rfl) h
 |cons q r=>
  have H:q∈BU nm l:=by rw[hk];exact N4 ..
  obtain⟨p,I,e⟩:=C0.1 H;obtain⟨y,G,_⟩:=R2.1 e;rw[LR]at G;exact List.mem_flatMap.2 ⟨p,I,CQ.2 ⟨_,MJ<|O8 G,rfl⟩⟩
theorem MI{l:Bc}:nm∈C7 l↔Ci l nm≠[]:=by grind [C7,Xs,lM]
def tot:Bc->Nat
 |[]=>0
 |q::r=>cnt q.1+tot r
theorem MU(x:Nd):0<cnt x:=by obtain⟨k,m,u,g,o,rL,d,ks⟩:=x;rw[cnt];omega
theorem LJ:∀l:Bc,l.length<=tot l
 |[]=>rP _
 |q::r=>by have:=LJ r;have:=MU q.1;simp[tot];omega
theorem W8:∀l:Bc,tot (F5 l)<=tot l
 |[]=>rP _
 |q::r=>by
  have G:=W8 r;rw[F5];split
  .simp[tot]
  split
  .simp[tot]
  .simp[tot];omega
theorem Sv:∀l:Bc,tot (A8 l)<=tot l
 |[]=>rP _
 |q::r=>by
  rw[A8];split
  .simp[tot]
  .exact W8 _
def oc:Option Nd->Nat
 |none=>0
 |some y=>cnt y
theorem Sg:∀N:List BA,(N.map λ_=>0).sum=0
 |[]=>rfl
 |n::N=>by simp only[CB,List.sum_cons];rw[Sg N]
theorem VZ(g h:BA->Nat):∀N:List BA,(N.map λn=>g n+h n).sum=(N.map g).sum+(N.map h).sum
 |[]=>rfl
 |n::N=>by simp only[CB,List.sum_cons];rw[VZ g h N];omega
theorem YF(a:BA)(c:Nat)(g:BA->Nat):∀N:List BA,N.Nodup->(N.map λn=>if a=n then c else g n).sum<=c+((N.filter λn=>decide (a≠n)).map g).sum
 |[],_=>by simp
 |n::N,h=>by
  obtain⟨J,O⟩:=List.nodup_cons.1 h;rw[CB,List.sum_cons];by_cases e:a=n
  .rw[NS e]
   have I:∀m∈N,a≠m:=λm G H=>J (by rw[<-e,H];exact G);have Z:(N.map λn=>if a=n then c else g n)=N.map g:=List.map_congr_left λm G=>NO<|I m G
   have H:(n::N).filter (λn=>decide (a≠n))=N:=by
    rw[List.filter_cons,NO<|by simp[e]];exact List.filter_eq_self.2 λm G=>NY<|I m G
   rw[Z,H];omega
  .rw[NO e,List.filter_cons,NS<|by simp[e],CB,List.sum_cons]
   have:=YF a c g N O;omega
theorem Yb:∀(ks:Ay) (N:List BA),N.Nodup->(N.map λnm=>oc<|Fq nm ks).sum<=cntL ks
 |[],N,_=>by
  have:(N.map λnm=>oc<|Fq nm [])=N.map λ_=>0:=rfl;rw[this,Sg]
  exact N7 _
 |(a,y)::l,N,h=>by
  have e:(N.map λnm=>oc<|Fq nm ((a,y)::l))=N.map λnm=>if a=nm then cnt y else oc (Fq nm l):=by
   refine List.map_congr_left λnm _=>?_;rw[Fq]
   split<;>rfl
  rw[e,cntL];have G:=YF a (cnt y) (λnm=>oc<|Fq nm l) N h;have H:=Yb l (N.filter λn=>decide (a≠n))<|h.filter _;omega
theorem dD(nm:BA)(q:Nd×Nat)(l:Bc):tot (BU nm (q::l))=oc (Ek nm q.1)+tot (BU nm l):=by grind [BU,Ek,oc,tot]
theorem Vy(x:Nd):cntL x.dirKs+1<=cnt x:=by
 obtain⟨k,m,u,g,o,rL,d,ks⟩:=x;rw[cnt];show cntL (if k=2 then ks else [])+1<=_;grind [cntL]
theorem Xm:∀(l:Bc) (N:List BA),N.Nodup->(N.map λnm=>tot<|BU nm l).sum+l.length<=tot l
 |[],N,_=>by
  have:(N.map λnm=>tot<|BU nm [])=N.map λ_=>0:=rfl;rw[this,Sg]
  simp[tot]
 |q::l,N,h=>by
  have e:(N.map λnm=>tot<|BU nm (q::l))=N.map λnm=>oc (Fq nm q.1.dirKs)+tot (BU nm l):=List.map_congr_left λnm _=>by rw[dD,LR]
  rw[e,VZ];have G:=Yb q.1.dirKs N h;have H:=Xm l N h;have I:=Vy q.1;simp only[tot,R5];omega
theorem pK(g h:BA->Nat)(G:∀n,g n<=h n):∀N:List BA,(N.map g).sum<=(N.map h).sum:=by intro n;induction n<;>grind
theorem Pv(l:Bc)(N:List BA)(h:N.Nodup):(N.map λnm=>tot<|Ci l nm).sum+l.length<=tot l:=by
 have G:=Xm l N h;have H:=pK (λnm=>tot<|Ci l nm) (λnm=>tot<|BU nm l) (λnm=>Sv _) N;omega
theorem MQ(l:Bc)(nm:BA):tot (Ci l nm)+l.length<=tot l:=by
 have:=Pv l [nm] oS;simpa using this
theorem VC(l:Bc):(C7 l).length<=tot l:=by
 have h:=Pv l (C7 l)<|Q9<|Ov l;have I:∀N:List BA,(∀nm∈N,Ci l nm≠[])->N.length<=(N.map λnm=>tot<|Ci l nm).sum:=by
  intro N;induction N with
  |nil=>intro _;exact rP _
  |cons n N J=>
   intro H;have O:=J λnm G=>H nm<|R4 _ G;have Z:0<tot (Ci l n):=N1 (CC.2<|H n<|N4 ..)<|LJ _
   simp only[CB,List.sum_cons,R5];omega
 have:=I (C7 l) λnm G=>MI.1 G;omega
theorem kI(ry:List BA):ry.foldl (λl nm=>A8<|BU nm l) ([]:Bc)=[]:=by
 induction ry with
 |nil=>rfl
 |cons nm r G=>exact G
def fk(m:BA):Ay->Option Nd
 |[]=>none
 |(n,x)::l=>if n=m then some x else fk m l
def C9(m:BA)(z:Nd):Ay->Ay
 |[]=>[]
 |(n,x)::l=>if n=m then(m,z)::l else(n,x)::C9 m z l
def EA(m:BA)(z:Nd):Ay->Ay
 |[]=>[(m,z)]
 |(n,x)::l=>if Br m n=true then(m,z)::(n,x)::l else(n,x)::EA m z l
def Gn(m:BA):Ay->Ay
 |[]=>[]
 |(n,x)::l=>if n=m then l else(n,x)::Gn m l
theorem JU(m:BA):∀(ks:Ay) (i:Nat),(BV m ks i=-1/\fk m ks=none)\/∃j y,BV m ks i=((i+j:Nat):Int)/\ks[j]? =some (m,y)/\fk m ks=some y/\(∀z,ks.set j (m,z)=C9 m z ks)/\ks.take j++ks.drop (j+1)=Gn m ks/\∀z,ks.take j++(m,z)::ks.drop (j+1)=C9 m z ks
 |[],i=>.inl ⟨by rw[BV],rfl⟩
 |(n,x)::l,i=>by
  rw[BV,fk];by_cases h:n=m
  .rw[NS h,NS h]
   refine .inr ⟨0,x,by simp,by simp[h],rfl,λz=>by simp[C9,h],by simp[Gn,h],λz=>by simp[C9,h]⟩
  .rw[NO h,NO h]
   rcases JU m l (i+1)with⟨G,H⟩|⟨j,y,G,H,I,J,O,Z⟩
   .exact .inl ⟨G,H⟩
   .refine .inr ⟨j+1,y,by rw[G];congr 1;omega,by simpa using H,I,λz=>by simp[C9,h,J z],by simp[Gn,h,<-O],λz=>by simp[C9,h,<-Z z]⟩
theorem jA{ks:Ay}:BV m ks 0<0↔fk m ks=none:=by grind [JU]
theorem Yh(m:BA)(x:Nd):∀ks:Ay,ks.take (Fg m ks)++(m,x)::ks.drop (Fg m ks)=EA m x ks
 |[]=>rfl
 |(n,y)::l=>by
  have e:Fg m ((n,y)::l)=if Br m n=true then 0 else Fg m l+1:=by
   unfold Fg;rw[List.findIdx_cons];cases Br m n<;>simp
  rw[e,EA];by_cases h:Br m n=true
  .rw[NS h,NS h];rfl
  .rw[NO h,NO h,<-Yh m x l];simp
theorem pX(m:BA)(x:Nd)(ks:Ay):NQ m x ks=if fk m ks=none then EA m x ks else C9 m x ks:=by grind [NQ,JU,Yh]
theorem qw{ks:Ay}(h:fk m ks≠none):NN m ks=Gn m ks:=by grind [NN,JU]
theorem Pr(m:BA)(l:List BA)(x:Nd):Ct (m::l) x=if x.kind≠2 then none else match fk m x.kids with
 |none=>none
 |some y=>Ct l y:=by
 rw[Ct];by_cases G:x.kind≠2
 .rw[NS<|.inl G,NS G]
 .rw[NO G]
  rcases JU m x.kids 0 with⟨H,I⟩|⟨j,y,H,I,J,_⟩
  .rw[NS<|.inr (by rw[H];decide),I]
  .rw[NO (λq=>by rcases q with q|q;exact G q;rw[H]at q;omega),J,H]
   have e:((0+j:Nat):Int).toNat=j:=by simp
   have O:x.kid j=y:=by unfold Nd.kid;rw[I]
   rw[e,O]
theorem LW(c:Option Nd)(m J:BA)(l:List BA)(x:Nd):A3 c (m::J::l) x=if x.kind≠2 then .error 7 else match fk m x.kids with
 |none=>.error 5
 |some y=>(A3 c (J::l) y).map λz=>x.with<|C9 m z x.kids:=by
 rw[A3];by_cases G:x.kind≠2
 .rw[NS G,NS G]
 .rw[NO G,NO G]
  rcases JU m x.kids 0 with⟨H,I⟩|⟨j,y,H,I,O,Z,_⟩
  .rw[NS (by rw[H];decide),I]
  .rw[NO (by rw[H];omega),O,H]
   have e:((0+j:Nat):Int).toNat=j:=by simp
   have ab:x.kid j=y:=by unfold Nd.kid;rw[I]
   rw[e,ab];congr 1;funext z
   rw[Z]
def GF(c:Option Nd)(m:BA)(ks:Ay):Except Int Ay:=match c with
 |some x=>if Bf m=false then .error 4 else .ok (if fk m ks=none then EA m x ks else C9 m x ks)
 |none=>if fk m ks=none then .error 5 else .ok (Gn m ks)
theorem oe(c:Option Nd)(m:BA)(ks:Ay):J2 c m ks=GF c m ks:=by cases c<;>grind [J2,GF,pX,jA,qw]
theorem KD(c:Option Nd)(m:BA)(x:Nd):A3 c [m] x=if x.kind≠2 then .error 7 else(GF c m x.kids).map x.with:=by rw[A3,oe]
theorem OB(x:Nd)(ks:Ay):(x.with ks).kids=ks:=by obtain⟨k,m,u,g,o,rL,d,G⟩:=x;rfl
theorem Ro(x:Nd)(ks:Ay):(x.with ks).kind=x.kind:=by obtain⟨k,m,u,g,o,rL,d,G⟩:=x;rfl
theorem YN:∀{ks:Ay},fk m ks≠none->fk m (C9 m z ks)=some z:=by intro ks;induction ks<;>grind [C9,fk]
theorem oW:∀{ks:Ay},fk m ks=none->fk m (EA m z ks)=some z:=by intro ks;induction ks<;>grind [EA,fk]
theorem iF{n:Nd}{f:Int}(h:A3 c l n=.error f):0<f/\f<=7:=by
 revert n;induction l with
 |nil=>intro n h;rw[A3]at h;simp only[tj]at h;omega
 |cons m l I=>
  intro n h;cases l with
  |nil=>
   rw[KD]at h;by_cases H:n.kind≠2
   .grind
   rw[NO H]at h;cases c with
   |some x=>
    simp only[GF]at h;by_cases G:Bf m=false
    .rw[NS G]at h;simp only[Except.map,tj]at h;omega
    .rw[NO G]at h;cases h
   |none=>
    simp only[GF]at h;by_cases G:fk m n.kids=none
    .rw[NS G]at h;simp only[Except.map,tj]at h;omega
    .rw[NO G]at h;cases h
  |cons J l=>
   rw[LW]at h;by_cases H:n.kind≠2
   .grind
   rw[NO H]at h;cases hf:fk m n.kids with
   |none=>rw[hf]at h;simp only[tj]at h;omega
   |some y=>
    rw[hf]at h;simp only at h;cases hc:A3 c (J::l) y with
    |ok z=>rw[hc]at h;cases h
    |error g=>rw[hc]at h;simp only[Except.map,tj]at h;subst h;exact I hc
structure Rg where
 i:Int
 o:Int
 n:Int
def A4(x:Int):Prop:=-9223372036854775808<=x/\x<=9223372036854775807
def Rg.ok(r:Rg):Prop:=A4 r.i/\A4 r.o/\A4 r.n
def Rgs(w:World)(a:Option Addr)(rs:List Rg):Prop:=
 rs=[]\/∃b G,a=some (aD b G)/\∀k r,rs[k]? =some r->w.cell? (aD b<|G+k*3)=some (iN r.i)/\w.cell? (aD b<|G+k*3+1)=some (iN r.o)/\w.cell? (aD b<|G+k*3+2)=some (iN r.n)
theorem Rgs.below{a:Option Addr}{rs:List Rg}(h:Rgs w a rs)(hb:Below w.heap.size w w'):Rgs w' a rs:=by
 rcases h with h|⟨b,G,J,O⟩
 .exact .inl h
 .refine .inr ⟨b,G,J,λk r Z=>?_⟩
  obtain⟨I,ab,ad⟩:=O k r Z;have H:b<w.heap.size:=bL I;exact⟨(hb.cell (p:=(aD b<|G+k*3)) H).trans I,(hb.cell (p:=(aD b<|G+k*3+1)) H).trans ab,(hb.cell (p:=(aD b<|G+k*3+2)) H).trans ad⟩
def Hl(w:World)(b:Nat)(r:Rg):Prop:=
 w.cell? (aD b 0)=some (iN r.i)/\w.cell? (aD b 1)=some (iN r.o)/\w.cell? (aD b 2)=some (iN r.n)/\∀o,w.frozen? (aD b o)=false
theorem Hl.new(w:World)(i o n:Int):Hl (w.alloc<|.cells #[iN i,iN o,iN n] 181) w.heap.size ⟨i,o,n⟩:=
 ⟨aC,aC,aC,λ_=>RB _ _ _ _ rfl⟩
theorem Hl.lt{r:Rg}(h:Hl w b r):b<w.heap.size:=NF _ _ h.1
theorem Hl.below{r:Rg}(h:Hl w b r)(hb:Below w.heap.size w w'):Hl w' b r:=by
 have G:=h.lt;obtain⟨H,I,J,O⟩:=h;exact⟨(hb.cell (p:=(aD b 0)) G).trans H,(hb.cell (p:=(aD b 1)) G).trans I,(hb.cell (p:=(aD b 2)) G).trans J,λo=>(hb.frozen (p:=(aD b o)) G).trans<|O o⟩
theorem Hl.alloc{r:Rg}(h:Hl w b r)(o:Obj):Hl (w.alloc o) b r:=h.below<|(NB _ _).alloc (rP _) _
def Il(f n:Int):Bool:=decide (0<=f/\1<=n/\n-1<=65535-f)
def Jv(a n b m:Int):Bool:=decide (a<b+m/\b<a+n)
def Hk(r:Rg):Bool:=Il r.i r.n&&Il r.o r.n
def Js(p r:Rg):Bool:=Jv p.i p.n r.i r.n||Jv p.o p.n r.o r.n
def Rg.bd(r:Rg):Prop:=0<=r.i/\r.i<=65535/\0<=r.o/\r.o<=65535/\1<=r.n/\r.n<=65536/\r.i+r.n<=65536/\r.o+r.n<=65536
theorem Te{r:Rg}(h:Hk r=true):r.bd:=by grind [Hk,Il,Rg.bd]
theorem QT(f n:Int)(J:A4 f)(O:A4 n)(w:World):Calls prog 208 #[iN f,iN n] w λe w'=>e=.returned (.bool<|Il f n)/\w=w':=by
 obtain⟨f1,f2⟩:=J;obtain⟨ab,ad⟩:=O;by_cases H:0<=f
 .by_cases I:1<=n
  .have G:Hid<|Il f n=decide (n-1<=65535-f):=by show _=_;simp[Il,H,I]
   go_enter func208,ntmps208;go_wp2;go_ret;exact⟨BI G.symm,rfl⟩
  .have Z:decide (1<=n)=false:=by simpa using I
   have G:Hid<|Il f n=false:=by show _=_;simp[Il];omega
   go_enter func208,ntmps208;go_wp2;go_ret;exact⟨BI G.symm,rfl⟩
 .have Z:decide (0<=f)=false:=by simpa using H
  have G:Hid<|Il f n=false:=by show _=_;simp[Il];omega
  go_enter func208,ntmps208;go_wp2;go_ret;exact⟨BI G.symm,rfl⟩
theorem RU(a n b m:Int)(H:0<=a)(I:a<=65535)(J:1<=n)(O:n<=65536)(Z:0<=b)(ab:b<=65535)(ad:1<=m)(ak:m<=65536)(w:World):
 Calls prog 209 #[iN a,iN n,iN b,iN m] w λe w'=>e=.returned (.bool<|Jv a n b m)/\w=w':=by
 by_cases g1:a<b+m
 .have G:Hid<|Jv a n b m=decide (b<a+n):=by show _=_;simp[Jv,g1]
  go_enter func209,ntmps209;go_wp2;go_ret;exact⟨BI G.symm,rfl⟩
 .have al:decide (a<b+m)=false:=by simpa using g1
  have G:Hid<|Jv a n b m=false:=by show _=_;simp[Jv];omega
  go_enter func209,ntmps209;go_wp2;go_ret;exact⟨BI G.symm,rfl⟩
abbrev Mk(ua ga ca lwa:Option Addr)(uc gc cc lwn lwc:Nat)(us gs:List Rg)(cs:List Int)(cu cg ck q:Int):Value:=.agg #[.slice ua us.length uc,.slice ga gs.length gc,iN cu,iN cg,.slice ca cs.length cc,iN ck,iN q,.slice lwa lwn lwc]
abbrev CY(ua ga ca lwa:Option Addr)(uc gc cc lwn lwc:Nat)(us gs:List Rg)(cs:List Int)(cu cg ck q:Int):Obj:=.cells #[.slice ua us.length uc,.slice ga gs.length gc,iN cu,iN cg,.slice ca cs.length cc,iN ck,iN q,.slice lwa lwn lwc] 43
def Gi(rs:List Rg)(k:Nat):Int:=match rs[k]? with
 |none=>0
 |some r=>if Hk r=false then 1 else if(rs.take k).any (λp=>Js p r)=true then 3 else 0
def mF(rs:List Rg):Nat->Nat->Int
 |_,0=>0
 |k,n+1=>if Gi rs k=0 then mF rs (k+1) n else Gi rs k
def Eb(rs:List Rg):Int:=if 4<rs.length then 2 else mF rs 0 rs.length
theorem ZD{rs:List Rg}(h:Gi rs k=0):mF rs k (n+1)=mF rs (k+1) n:=by simp[mF,h]
theorem Nq{rs:List Rg}(h:¬Gi rs k=0):mF rs k (n+1)=Gi rs k:=by simp[mF,h]
theorem MN{rs:List Rg}{r:Rg}(G:rs[k]? =some r)(h:Hk r=false):Gi rs k=1:=by simp[Gi,G,h]
theorem Ou{rs:List Rg}{r:Rg}(G:rs[k]? =some r)(h:Hk r=true)(H:(rs.take k).any (λp=>Js p r)=true):Gi rs k=3:=by grind [Gi]
theorem WA{rs:List Rg}{r:Rg}(G:rs[k]? =some r)(h:Hk r=true)(H:(rs.take k).any (λp=>Js p r)=false):Gi rs k=0:=by grind [Gi]
theorem UG{rs:List Rg}{r:Rg}(G:rs[k]? =some r)(h:Gi rs k=0):Hk r=true:=by grind [MN]
theorem aK{α:Type}{l:List α}{p:α}(h:l[k]? =some p):l.take (k+1)=l.take k++[p]:=by grind [List.take_succ_eq_append_getElem]
theorem OO{rs:List Rg}{f:Rg->Bool}{j:Nat}(H:j<k)(h:(rs.take<|j+1).any f=true):(rs.take k).any f=true:=by
 rw[List.any_eq_true]at h⊢;obtain⟨x,hx,G⟩:=h;refine⟨x,?_,G⟩;have:rs.take (j+1)=(rs.take k).take (j+1):=by rw[List.take_take];congr 1;omega
 grind
theorem Oy(a:Option Addr)(cap:Nat)(rs:List Rg)(w:World)(bA:rs.length<=100)(bB:rs.length<=cap)(bg:∀r∈rs,r.ok)(h:Rgs w a rs):
 Calls prog 153 #[.slice a rs.length cap] w λe w'=>e=.returned (Ao<|Eb rs)/\Below w.heap.size w w':=by
 by_cases a6:4<rs.length
 .have bk:Hid<|Eb rs=2:=NS a6
  go_enter func153,ntmps153;go_wp2;go_ret;exact⟨CM (AP bk.out oD).symm,NB _ _⟩
 have ak:Hid<|Eb rs=mF rs 0 rs.length:=NO a6;have hd:decide (4<(rs.length:Int))=false:=by simp;omega
 go_enter func153,ntmps153;go_wp2;go_loopw [13] (λi wr=>∃k:Nat,k<=rs.length/\i=iN k/\Hid (mF rs 0 rs.length=mF rs k (rs.length-k))/\Hid (∀j,j<k->Gi rs j=0)/\Below w.heap.size w wr) (λi _=>rs.length-(intOf i).toNat)
 case atStart=>exact⟨0,N7 _,rfl,rfl,λj a7=>absurd a7 (Nat.not_lt_zero _),NB _ _⟩
 case round=>
  obtain⟨k,bC,rfl,Z,a8,G⟩:=hrel;by_cases ba:k<rs.length
  .rcases h with rfl|⟨b,ab,rfl,bb⟩
   .simp at ba
   .have⟨r,hr⟩:∃r,rs[k]? =some r:=⟨rs[k],by simp[ba]⟩
    have⟨hc0,hc1,hc2⟩:=bb k r hr;have O:b<w.heap.size:=bL hc0;have bl:=N1 O G.size;have⟨⟨i1,i2⟩,⟨o1,o2⟩,⟨n1,n2⟩⟩:=bg r<|NW hr;have bF:(k:Int)<(rs.length:Int):=by omega
    have al:Hid<|mF rs k (rs.length-k)=mF rs k ((rs.length-(k+1))+1):=by show _=_;congr 1;omega
    have⟨ri,ro,rn⟩:=r;dsimp only at*;have bG:=(G.cell (p:=(aD b<|ab+k*3)) O).trans hc0;have q1:=(G.cell (p:=(aD b<|ab+k*3+1)) O).trans hc1;have q2:=(G.cell (p:=(aD b<|ab+k*3+2)) O).trans hc2;have J:=hid hr;have bn:=bb;have⟨bi,hbi⟩:∃t,Il ri rn=t:=⟨_,rfl⟩;have⟨bo,hbo⟩:∃t,Il ro rn=t:=⟨_,rfl⟩;have aw:bi=false\/bi=true/\bo=false\/bi=true/\bo=true:=by cases bi<;>cases bo<;>simp
    rcases aw with rfl|⟨rfl,rfl⟩|⟨rfl,rfl⟩
    .have H:Hid<|mF rs k (rs.length-k)=1:=al.trans<|(Nq (by rw[MN J.out<|by simp[Hk,hbi]];decide)).trans<|MN J<|by simp[Hk,hbi]
     go_wp2_with (go_at_call 208;go_call QT _ _ ⟨by omega,by omega⟩ ⟨by omega,by omega⟩ _ as e w' ⟨rfl,rfl⟩)
     go_ret;exact⟨CM (AP (by rw[ak.out,Z.out,H.out]) oD).symm,G.alloc G.size _⟩
    .have H:Hid<|mF rs k (rs.length-k)=1:=al.trans<|(Nq (by rw[MN J.out<|by simp[Hk,hbo]];decide)).trans<|MN J<|by simp[Hk,hbo]
     go_wp2_with (go_at_call 208;go_call QT _ _ ⟨by omega,by omega⟩ ⟨by omega,by omega⟩ _ as e w' ⟨rfl,rfl⟩)
     go_ret;exact⟨CM (AP (by rw[ak.out,Z.out,H.out]) oD).symm,G.alloc G.size _⟩
    .have bd:Hk ⟨ri,ro,rn⟩=true:=by simp[Hk,hbi,hbo]
     have⟨v1,v2,v3,v4,v5,v6,v7,v8⟩:=Te bd;dsimp only at v1 v2 v3 v4 v5 v6 v7 v8;have ad:=hid bd;have bH:(k:Int)<=(cap:Int):=by omega
     go_wp2_with (go_at_call 208;go_call QT _ _ ⟨by omega,by omega⟩ ⟨by omega,by omega⟩ _ as e w' ⟨rfl,rfl⟩)
     have az:=Hl.new wr ri ro rn;have be:=G.alloc G.size<|.cells #[iN ri,iN ro,iN rn] 181;generalize wr.alloc (.cells #[iN ri,iN ro,iN rn] 181)=bY at az be⊢;generalize wr.heap.size=bp at az⊢;go_loopw [37] (λi bf=>∃j:Nat,j<=k/\i=iN j/\Hid ((rs.take j).any (λp=>Js p ⟨ri,ro,rn⟩)=false)/\Below w.heap.size w bf/\Hl bf bp ⟨ri,ro,rn⟩) (λi _=>k-(intOf i).toNat)
     case atStart=>exact⟨0,N7 _,rfl,rfl,be,az⟩
     case round=>
      obtain⟨j,a7,rfl,aA,I,a1⟩:=hrel;have⟨x0,x1,x2,x3⟩:=id a1;dsimp only at x0 x1 x2;have lb:=a1.lt;by_cases ao:j<k
      .have bq:j<rs.length:=by omega
       have⟨p,hp⟩:∃p,rs[j]? =some p:=⟨rs[j],by simp[bq]⟩;have⟨y0,y1,y2⟩:=bn j p hp;have⟨t1,t2,t3,t4,t5,t6,t7,t8⟩:=Te<|UG hp<|a8 j ao;have ap:Hid<|(rs.take<|j+1).any (λp=>Js p ⟨ri,ro,rn⟩)=Js p ⟨ri,ro,rn⟩:=by
        show _=_;rw[aK hp,List.any_append,aA.out];simp
       have⟨pi,po,pn⟩:=p;dsimp only at y0 y1 y2 t1 t2 t3 t4 t5 t6 t7 t8;have z0:=(I.cell (p:=(aD b<|ab+j*3)) O).trans y0;have b0:=(I.cell (p:=(aD b<|ab+j*3+1)) O).trans y1;have b1:=(I.cell (p:=(aD b<|ab+j*3+2)) O).trans y2;have bl:=N1 O I.size;have b2:(j:Int)<(k:Int):=by omega
       have⟨mi,hmi⟩:∃t,Jv pi pn ri rn=t:=⟨_,rfl⟩;have⟨mo,hmo⟩:∃t,Jv po pn ro rn=t:=⟨_,rfl⟩;have ar:Hid<|Js ⟨pi,po,pn⟩ ⟨ri,ro,rn⟩=(mi||mo):=by show _=_;simp[Js,hmi,hmo]
       have aw:mi=true\/mi=false/\mo=true\/mi=false/\mo=false:=by cases mi<;>cases mo<;>simp
       rcases aw with rfl|⟨rfl,rfl⟩|⟨rfl,rfl⟩
       .have H:Hid<|mF rs k (rs.length-k)=3:=al.trans<|(Nq (by rw[Ou J.out ad.out<|OO ao (by rw[ap.out,ar.out];rfl)];decide)).trans<|Ou J ad<|OO ao (by rw[ap.out,ar.out];rfl)
        go_wp2_with (go_at_call 209;go_call RU _ _ _ _ oM oM oM oM oM oM oM oM _ as e w' ⟨rfl,rfl⟩)
        go_ret;exact⟨CM (AP (by rw[ak.out,Z.out,H.out]) oD).symm,I.alloc I.size _⟩
       .have H:Hid<|mF rs k (rs.length-k)=3:=al.trans<|(Nq (by rw[Ou J.out ad.out<|OO ao (by rw[ap.out,ar.out];rfl)];decide)).trans<|Ou J ad<|OO ao (by rw[ap.out,ar.out];rfl)
        go_wp2_with (go_at_call 209;go_call RU _ _ _ _ oM oM oM oM oM oM oM oM _ as e w' ⟨rfl,rfl⟩)
        go_ret;exact⟨CM (AP (by rw[ak.out,Z.out,H.out]) oD).symm,I.alloc I.size _⟩
       .have H:Hid<|(rs.take<|j+1).any (λp=>Js p ⟨ri,ro,rn⟩)=false:=by show _=_;rw[ap.out,ar.out];rfl
        go_wp2_with (go_at_call 209;go_call RU _ _ _ _ oM oM oM oM oM oM oM oM _ as e w' ⟨rfl,rfl⟩)
        go_roundw
        case rel=>exact⟨j+1,by omega,by go_num,H,I.alloc I.size _,a1.alloc _⟩
        case measure=>simp[intOf];omega
      .have bs:j=k:=by omega
       subst bs;have H:=hid<|al.trans<|ZD<|WA J ad aA;have bu:Hid (∀i,i<j+1->Gi rs i=0):=by
        intro i b4;by_cases e:i=j
        .subst e;exact WA J ad aA
        .exact a8 i oM
       go_wp2;go_roundw
       case rel=>exact⟨j+1,by omega,by go_num,Z.trans H,bu,I⟩
       case measure=>simp[intOf];omega
  .have bx:rs.length-k=0:=by omega
   go_wp2;go_ret;exact⟨CM (DE (by rw[ak.out,Z.out,bx];rfl)).symm,G⟩
theorem mr(r:Rg)(w:World):Calls prog 234 #[.agg #[iN r.i,iN r.o,iN r.n]] w λe w'=>e=.returned (.tuple #[iN r.i,iN r.o])/\Below w.heap.size w w':=by
 go_enter func234,ntmps234;go_wp2;go_quiet (fail)
 go_wp2;go_ret2;exact⟨rfl,CS bN _⟩
theorem eI(r:Rg)(w:World):Calls prog 118 #[.agg #[iN r.i,iN r.o,iN r.n]] w λe w'=>e=.returned (.tuple #[iN r.o,iN r.i])/\Below w.heap.size w w':=by
 go_enter func118,ntmps118;go_wp2;go_quiet (fail)
 go_wp2;go_ret2;exact⟨rfl,CS bN _⟩
def EU(fr G:Rg->Int):List Rg->Int->Option Int
 |[],_=>none
 |r::l,x=>if fr r<=x/\x-fr r<r.n then some (G r+x-fr r)else EU fr G l x
theorem ig{fr G:Rg->Int}{r:Rg}{l:List Rg}{x:Int}(H:fr r<=x)(I:x-fr r<r.n):EU fr G (r::l) x=some (G r+x-fr r):=by
 unfold EU;rw[NS ⟨H,I⟩]
theorem cN{fr G:Rg->Int}{r:Rg}{l:List Rg}{x:Int}(h:¬(fr r<=x/\x-fr r<r.n)):EU fr G (r::l) x=EU fr G l x:=by
 rw[EU,NO h]
def Hc(rs:List Rg)(x:Int):Option Int:=if Eb rs=0 then EU (·.i) (·.o) rs x else none
def Ig(rs:List Rg)(x:Int):Option Int:=if Eb rs=0 then EU (·.o) (·.i) rs x else none
def I6(o:Option Int):Value:=.tuple #[iN<|o.getD 0,.bool o.isSome]
theorem jz{v:Int}(h:o=some v):Ending.returned (.tuple #[iN v,.bool true])=.returned (I6 o):=by subst h;rfl
theorem WX(h:o=none):Ending.returned (.tuple #[iN 0,.bool false])=.returned (I6 o):=by subst h;rfl
theorem Yc{G:Option Int}(h:o=G):Ending.returned (.tuple #[iN<|o.getD 0,.bool o.isSome])=.returned (I6 G):=by subst h;rfl
theorem pm{rs:List Rg}:∀n k,mF rs k n=0->∀j,k<=j->j<k+n->Gi rs j=0:=by intro n k;induction n generalizing k<;>grind [ZD,Nq]
theorem fU{rs:List Rg}(h:Eb rs=0):rs.length<=4/\∀j,j<rs.length->Gi rs j=0:=by grind [Eb,pm]
theorem Po{rs:List Rg}(h:Eb rs=0):∀r∈rs,r.bd:=by grind [R7,Te,UG,fU]
theorem Vl(fn:Nat)(A B:Rg->Int)(Z:∀r w,Calls prog fn #[.agg #[iN r.i,iN r.o,iN r.n]] w λe w'=>e=.returned (.tuple #[iN<|A r,iN<|B r])/\Below w.heap.size w w')(bs:∀xs w,(callFunc fn xs).run prog w=.ok (.enter fn xs) w)(hb:∀r:Rg,A r=r.i/\B r=r.o\/A r=r.o/\B r=r.i)(a:Option Addr)(cap:Nat)(rs:List Rg)(x:Int)(w:World)(a1:rs.length<=100)(a6:rs.length<=cap)(a7:∀r∈rs,r.ok)(hx:A4 x)(h:Rgs w a rs)(o:Option Int)(a8:Hid<|(if Eb rs=0 then EU A B rs x else none)=o):
 Calls prog 117 #[.slice a rs.length cap,iN x,.func (.func fn) #[] #[]] w λe w'=>e=.returned (I6 o)/\Below w.heap.size w w':=by
 obtain⟨bu,bx⟩:=hx;by_cases ad:Eb rs=0
 .have ak:Hid<|o=EU A B rs x:=a8.symm.trans<|NS ad
  have ba:=hid ad;go_enter func117,ntmps117;go_wp2_with fail
  go_call Oy a cap rs _ a1 a6 a7 h as e w1 ⟨rfl,hB1⟩
  rw[DE ba.out];go_wp2_with fail
  go_loopw [17] (λi wr=>∃k:Nat,k<=rs.length/\i=iN k/\Hid (EU A B rs x=EU A B (rs.drop k) x)/\Below w.heap.size w wr) (λi _=>rs.length-(intOf i).toNat)
  case atStart=>exact⟨0,N7 _,rfl,rfl,hB1⟩
  case round=>
   obtain⟨k,bA,rfl,al,O⟩:=hrel;by_cases bb:k<rs.length
   .rcases h with rfl|⟨b,ap,rfl,bf⟩
    .simp at bb
    .obtain⟨r,ar⟩:∃r,rs[k]? =some r:=⟨rs[k],by simp[bb]⟩
     obtain⟨bd,bg,bi⟩:=bf k r ar;have ao:b<w.heap.size:=bL bd;have bB:=N1 ao O.size;obtain⟨bC,bF,t3,t4,t5,bG,bH,bY⟩:=Po ba r<|NW ar;have aw:Hid (rs.drop k=r::rs.drop (k+1)):=by
      obtain⟨bk,rfl⟩:=NE.1 ar;exact N9 bk
     have b0:(k:Int)<(rs.length:Int):=by omega
     obtain⟨H,I,G⟩:=r;have T:=hb ⟨H,I,G⟩;have Z:=Z ⟨H,I,G⟩;have ab:Hid (∀l,EU A B (⟨H,I,G⟩::l) x=if A ⟨H,I,G⟩<=x/\x-A ⟨H,I,G⟩<G then some (B ⟨H,I,G⟩+x-A ⟨H,I,G⟩)else EU A B l x):=λ_=>rfl;generalize A ⟨H,I,G⟩=p at T Z ab
     generalize B ⟨H,I,G⟩=q at T Z ab;dsimp only at*;have b1:=(O.cell (p:=(aD b<|ap+k*3)) ao).trans bd;have q1:=(O.cell (p:=(aD b<|ap+k*3+1)) ao).trans bg;have q2:=(O.cell (p:=(aD b<|ap+k*3+2)) ao).trans bi;go_wp2_with fail
     go_call Z _ as e w2 ⟨rfl,hB2⟩
     have bl:=(Hl.new wr H I G).below hB2;have az:=(O.alloc O.size<|.cells #[iN H,iN I,iN G] 181).trans<|hB2.mono (by have:=O.size;simp;omega);obtain⟨bn,bo,bp,b2⟩:=id bl;dsimp only at bn bo bp;by_cases g1:p<=x
     .by_cases aA:x-p<G
      .have J:Hid<|EU A B rs x=some (q+x-p):=al.trans<|by rw[aw.out,ab.out,NS ⟨g1,aA⟩]
       go_wp2;go_ret2;exact⟨jz<|ak.trans J,az⟩
      .have J:Hid<|EU A B rs x=EU A B (rs.drop<|k+1) x:=al.trans<|by rw[aw.out,ab.out,NO λe=>aA e.2]
       have b4:decide (x-p<G)=false:=by simpa using aA
       go_wp2;go_roundw
       case rel=>exact⟨k+1,by omega,by go_num,J,az⟩
       case measure=>simp[intOf];omega
     .have J:Hid<|EU A B rs x=EU A B (rs.drop<|k+1) x:=al.trans<|by rw[aw.out,ab.out,NO λe=>g1 e.1]
      have b6:decide (p<=x)=false:=by simpa using g1
      go_wp2;go_roundw
      case rel=>exact⟨k+1,by omega,by go_num,J,az⟩
      case measure=>simp[intOf];omega
   .have J:Hid<|EU A B rs x=none:=al.trans (by rw[R8 oM];rfl)
    go_wp2;go_ret2;exact⟨WX<|ak.trans J,O⟩
 .have ak:Hid<|o=none:=a8.symm.trans<|NO ad
  obtain⟨n,be⟩:∃n,Eb rs=n:=⟨_,rfl⟩;have J:=hid be;have bq:n≠0:=be▸ad;go_enter func117,ntmps117;go_wp2_with fail
  go_call Oy a cap rs _ a1 a6 a7 h as e w1 ⟨rfl,hB1⟩
  rw[AP J.out bq];go_wp2;go_ret2;exact⟨WX ak,hB1⟩
theorem UK(a:Option Addr)(cap:Nat)(rs:List Rg)(x:Int)(w:World)(H:rs.length<=100)(I:rs.length<=cap)(J:∀r∈rs,r.ok)(hx:A4 x)(h:Rgs w a rs):
 Calls prog 189 #[.slice a rs.length cap,iN x] w λe w'=>e=.returned (I6<|Hc rs x)/\Below w.heap.size w w':=by
 obtain⟨o,G⟩:=Aq<|Hc rs x;go_enter func189,ntmps189;go_wp2_with fail
 go_call Vl 234 (·.i) (·.o) mr Tryz.call234 (λ_=>.inl ⟨rfl,rfl⟩) a cap rs x _ H I J hx h o G as e w1 ⟨rfl,hB1⟩
 unfold I6;go_wp2;go_ret2;exact⟨Yc G.symm,hB1⟩
theorem Uf(a:Option Addr)(cap:Nat)(rs:List Rg)(x:Int)(w:World)(H:rs.length<=100)(I:rs.length<=cap)(J:∀r∈rs,r.ok)(hx:A4 x)(h:Rgs w a rs):
 Calls prog 80 #[.slice a rs.length cap,iN x] w λe w'=>e=.returned (I6<|Ig rs x)/\Below w.heap.size w w':=by
 obtain⟨o,G⟩:=Aq<|Ig rs x;go_enter func80,ntmps80;go_wp2_with fail
 go_call Vl 118 (·.o) (·.i) eI Tryz.call118 (λ_=>.inr ⟨rfl,rfl⟩) a cap rs x _ H I J hx h o G as e w1 ⟨rfl,hB1⟩
 unfold I6;go_wp2;go_ret2;exact⟨Yc G.symm,hB1⟩
theorem Ru(m:BA)(x y:Nd):∀ks:Ay,C9 m y (C9 m x ks)=C9 m y ks
 |[]=>rfl
 |(n,z)::l=>by
  by_cases h:n=m
  .simp[C9,h]
  .simp[C9,h,Ru m x y l]
theorem ij:∀{ks:Ay},fk m ks=none->C9 m y (EA m x ks)=EA m y ks:=by intro ks;induction ks<;>grind [EA,C9,fk]
theorem Rj(x:Nd)(a b:Ay):(x.with a).with b=x.with b:=by obtain⟨k,m,u,g,o,rL,d,ks⟩:=x;rfl
theorem O0(c:Option Nd)(m:BA)(G:l≠[])(x:Nd):A3 c (m::l) x=if x.kind≠2 then .error 7 else match fk m x.kids with
 |none=>.error 5
 |some y=>(A3 c l y).map λz=>x.with<|C9 m z x.kids:=by
 cases l with
 |nil=>exact absurd rfl G
 |cons H l=>exact LW c m H l x
theorem Vx{x:Nd}{c:Option Nd}{H:List BA}(O:H≠[]):∀{l:List BA} {n r:Nd},A3 (some x) l n=.ok r->A3 c (l++H) r=(match A3 c H x with|.error f=>.error f|.ok y=>A3 (some y) l n)
 |[],n,r,h=>by rw[A3]at h;cases h
 |[m],n,r,h=>by
  rw[KD]at h;by_cases G:n.kind≠2
  .rw[NS G]at h;cases h
  rw[NO G]at h;simp only[GF]at h;by_cases I:Bf m=false
  .rw[NS I]at h;cases h
  rw[NO I]at h;have e:r=n.with (if fk m n.kids=none then EA m x n.kids else C9 m x n.kids):=by cases h;rfl
  have Z:fk m (if fk m n.kids=none then EA m x n.kids else C9 m x n.kids)=some x:=by
   split
   .exact oW ‹_›
   .exact YN ‹_›
  rw[List.singleton_append,O0 c m O,e,Ro,NO G,OB,Z];dsimp only;cases A3 c H x with
  |error f=>rfl
  |ok y=>
   dsimp only;rw[KD,NO G];simp only[GF];rw[NO I];show Except.ok _=Except.ok _;dsimp only;rw[Rj];congr 2;split
   .exact ij ‹_›
   .exact Ru _ _ _ _
 |m::J::l,n,r,h=>by
  rw[LW]at h;by_cases G:n.kind≠2
  .rw[NS G]at h;cases h
  rw[NO G]at h;cases hf:fk m n.kids with
  |none=>rw[hf]at h;cases h
  |some y=>
   rw[hf]at h;dsimp only at h;cases hc:A3 (some x) (J::l) y with
   |error f=>rw[hc]at h;cases h
   |ok z=>
    rw[hc]at h;have e:r=n.with (C9 m z n.kids):=by cases h;rfl
    have ab:=Vx (c:=c) O hc;show A3 c (m::((J::l)++H)) r=_;rw[O0 c m oS,e,Ro,NO G,OB,YN (by rw[hf];simp)];dsimp only;rw[ab];cases A3 c H x with
    |error f=>rfl
    |ok v=>
     dsimp only;rw[LW,NO G,hf];dsimp only;cases A3 (some v) (J::l) y with
     |error f=>rfl
     |ok v=>show Except.ok _=Except.ok _;dsimp only;rw[Rj,Ru]
theorem gT(m:BA):∀(l:List BA) (x:Nd),Ct (l++[m]) x=(Ct l x).bind λy=>if y.kind≠2 then none else fk m y.kids:=by intro l x;induction l generalizing x<;>grind [Pr,Ct]
theorem O4{x:Nd}{m:BA}:∀{l:List BA} {n d:Nd},Ct l n=some d->d.kind=2->(Bf m=false->A3 (some x) (l++[m]) n=.error 4)/\(¬Bf m=false->∃r,A3 (some x) (l++[m]) n=.ok r)
 |[],n,d,h,hd=>by
  rw[Ct]at h;cases h;rw[CN,KD,NO<|by simp[hd]];simp only[GF];exact⟨λe=>by rw[NS e];rfl,λe=>by rw[NO e];exact⟨_,rfl⟩⟩
 |a::l,n,d,h,hd=>by
  rw[Pr]at h;by_cases G:n.kind≠2
  .rw[NS G]at h;cases h
  rw[NO G]at h;cases hf:fk a n.kids with
  |none=>rw[hf]at h;cases h
  |some y=>
   rw[hf]at h;obtain⟨H,I⟩:=O4 (x:=x) (m:=m) (l:=l) h hd;rw[Cd,O0 _ a oS,NO G,hf];dsimp only;refine⟨λe=>by rw[H e];rfl,λe=>?_⟩;obtain⟨r,J⟩:=I e;rw[J];exact⟨_,rfl⟩
def CW:List (Nd×BA)->Nd
 |[]=>zN
 |[p]=>p.1
 |p::q::r=>p.1.with [(q.2,CW (q::r))]
theorem VL{z:Nd}{m:BA}:∀{L:List (Nd×BA)},L≠[]->(∀p∈L,p.1.kind=2/\p.1.kids=[])->A3 (some z) (L.tail.map Prod.snd++[m]) (CW L)=if Bf m=false then .error 4 else .ok (CW<|L++[(z,m)])
 |[],h,_=>absurd rfl h
 |[p],_,h=>by
  obtain⟨G,H⟩:=h p<|N4 ..;rw[List.tail_cons,List.map_nil,CN,CW,KD,NO<|by simp[G],H];simp only[GF];split
  .rfl
  .simp[fk,EA,CW];rfl
 |p::q::r,_,h=>by
  obtain⟨G,H⟩:=h p<|N4 ..;have I:=VL (z:=z) (m:=m) (L:=q::r) oS λp J=>h p<|R4 _ J;rw[List.tail_cons]at I;show A3 (some z) (q.2::(r.map Prod.snd++[m])) (p.1.with [(q.2,CW (q::r))])=_;rw[O0 _ _ oS,Ro,NO<|by simp[G],OB];simp only[fk,if_true,I];split
  .rfl
  .show Except.ok _=Except.ok _
   simp only[C9,if_true,Rj];rfl
def BH(G:Bool)(us gs:List Rg):Nd->Option Nd
 |.mk k m u g o rL d ks=>match(if G=true then Hc us u else Ig us u),(if G=true then Hc gs g else Ig gs g)with
  |some H,some g'=>some<|.mk k m H g' o rL d ks
  |_,_=>none
def Dv:Nd->Nd
 |.mk k m u g _ rL d _=>.mk k m u g false rL d []
theorem LT{G:Bool}{us gs:List Rg}(h:BH G us gs x=some y):y.kind=x.kind/\y.kids=x.kids:=by
 obtain⟨k,m,u,g,o,rL,d,ks⟩:=x;rw[BH]at h;split at h
 .cases h;exact⟨rfl,rfl⟩
 .cases h
theorem fB(x:Nd):(Dv x).kind=x.kind:=by obtain⟨k,m,u,g,o,rL,d,ks⟩:=x;rfl
theorem Rn(x:Nd):(Dv x).kids=[]:=by obtain⟨k,m,u,g,o,rL,d,ks⟩:=x;rfl
def Dl(us gs:List Rg):List (Nd×BA)->Except Int (List<|Nd×BA)
 |[]=>.ok []
 |(x,m)::r=>match BH true us gs x with
  |none=>.error 11
  |some y=>if Bf m=false then .error 4 else match Dl us gs r with
   |.error f=>.error f
   |.ok L=>.ok ((y,m)::L)
theorem MR{us gs:List Rg}{x:Nd}{m:BA}:∀A:List<|Nd×BA,Dl us gs (A++[(x,m)])=(match Dl us gs A with|.error f=>.error f|.ok L=>(match BH true us gs x with|none=>.error 11|some y=>if Bf m=false then .error 4 else .ok (L++[(y,m)])))
 |[]=>by simp[Dl]
 |(a,n)::r=>by
  rw[Cd,Dl,Dl,MR r];cases BH true us gs a with
  |none=>rfl
  |some y=>
   dsimp only;split
   .rfl
   .cases Dl us gs r with
    |error f=>rfl
    |ok L=>
     dsimp only;cases BH true us gs x with
     |none=>rfl
     |some z=>
      dsimp only;by_cases G:Bf m=false
      .rw[NS G,NS G]
      .rw[NO G,NO G];rfl
theorem YM{us gs:List Rg}:∀{A L:List (Nd×BA)},Dl us gs A=.ok L->L.map Prod.snd=A.map Prod.snd/\(∀p∈A,Bf p.2=true)/\((∀p∈A,p.1.kind=2/\p.1.kids=[])->∀p∈L,p.1.kind=2/\p.1.kids=[]):=by intro A L;induction A generalizing L<;>grind [Dl,LT]
structure Pn where
 a:Option Addr
 c:Nat
 ks:Ay
def pv(P:List Pn):List Value:=P.map λe=>.slice e.a e.ks.length e.c
theorem ir(P:List Pn):(pv P).length=P.length*1:=by simp[pv]
def ms:List Ay->Nat
 |[]=>0
 |k::l=>(1+2*cntL k)+ms l
theorem Ku:∀a b:List Ay,ms (a++b)=ms a+ms b
 |[],b=>by simp[ms]
 |k::a,b=>by simp[ms,Ku a b];omega
theorem SR:∀l:List Ay,l.length<=ms l
 |[]=>rP _
 |k::l=>by have:=SR l;simp[ms];omega
theorem Xa(x:Nd):cnt x=cntL x.kids+1:=by obtain⟨k,m,u,g,o,rL,d,ks⟩:=x;rw[cnt];rfl
theorem Pc:∀ks:Ay,ms (ks.map λp=>p.2.kids)+ks.length=2*cntL ks
 |[]=>rfl
 |(n,x)::l=>by
  have:=Pc l;have:=Xa x;simp[ms,cntL];omega
theorem mA(ks:Ay)(j:Nat):ms ((ks.take j).map λp=>p.2.kids)<=ms (ks.map λp=>p.2.kids):=by grind [CR,Ku]
def E0(G:Nat)(v:Value)(S:Nat->Bool):Nat->Bool:=λk=>(k==G+1||some k==v.ownBlock)||S k
theorem KI:E0 G v S k=false↔k≠G+1/\some k≠v.ownBlock/\S k=false:=by simp[E0,and_assoc]
theorem lm{c G:AR}{H:Hd}(J:A9 c b p y H)(O:Am c y H)(Z:Am c y I)(ab:A9 G b p y I)
 (ad:∀q,q≠(aD b<|p+5)->q≠(aD b<|p+7)->G q=c q) {a:Option Addr} {ks:Ay} (ak:ks.length<=1000) (h:FQ c a ks):FQ G a ks:=
 have hx:Am c (.mk 0 0 0 0 false [] ⟨#[]⟩ ks) ⟨none,0,a,ks.length⟩:=Cs.2 ⟨.inl rfl,⟨rP _,by simp⟩,⟨rP _,by show ks.length<=_;omega⟩,h⟩
 (Cs.1<|Wx J O Z ab ad hx).2.2.2
def NJ(base:Nat)(w:World)(S:Nat->Bool)(e:Pn):Prop:=FQ (Ag w.cell? S) e.a e.ks/\I2 base w e.a e.ks/\EO e.ks/\e.ks.length<=1000
structure Eo (W wr:World) (S:Nat->Bool) (nb:Nat) (x:Nd) (h0:Hd) (v:Value) (P Q:List Pn):Prop where
 row:wr.ownsRow (nb+2) 29 1 v P.length<|pv P
 box:Cm wr nb x h0
 res:AC wr (nb+1) zN zH
 tree:Am (Ag wr.cell?<|E0 nb v S) x h0
 pend:∀e∈Q,NJ (nb+2) wr (E0 nb v S) e
 low:Below W.heap.size W wr
 sz:W.heap.size=nb
theorem AC.but(G:AC w b x h)(hb:Az H w w')(I:b≠H):AC w' b x h:=
 ⟨G.1.but hb I,λj=>(hb.frozen (p:=(aD b j)) G.1.lt I).trans<|G.2 j⟩
theorem Eo.below{P Q:List Pn}(h:Eo W wr S H x I v P Q)(hb:Below wr.heap.size wr w'):Eo W w' S H x I v P Q:=
 ⟨Vk h.row hb,h.box.below hb,h.res.below hb,h.tree.on<|Du hb,λe G=>⟨(h.pend e G).1.on<|Du hb,(h.pend e G).2.1.below hb,(h.pend e G).2.2⟩,h.low.trans<|hb.mono h.low.size,h.sz⟩
theorem Eo.sub{H:Hd}{P Q Q':List Pn}(h:Eo W wr S G x H v P Q)(I:∀e∈Q',e∈Q):Eo W wr S G x H v P Q':=
 ⟨h.row,h.box,h.res,h.tree,λe J=>h.pend e<|I e J,h.low,h.sz⟩
theorem Eo.pop{cap:Nat}{P:List Pn}{e:Pn}{Q:List Pn}(J:P.length=n)(h:Eo W wr S G x I (sL H 0 (n+1) cap) (P++[e]) Q):Eo W wr S G x I (sL H 0 n cap) P Q:=by
 subst J;refine⟨?_,h.box,h.res,h.tree,h.pend,h.low,h.sz⟩;have:=h.row;rw[show(P++[e]).length=P.length+1 by simp,show pv (P++[e])=pv P++pv [e] by simp[pv]]at this;exact ownsRow_pop (ir P) this
theorem Eo.store{g:Nat}{ak J h':Hd}{P Q:List Pn}(h:Eo W w S G x ak v P Q)(be:G+2<=g)
 (I:A9 (Ag w.cell?<|E0 G v S) g p y J) (al:Am (Ag w.cell?<|E0 G v S) y J) (ao:Am (Ag w.cell?<|E0 G v S) y h'):Eo W (BS w g p y h') S G x ak v P Q:=by
 have H:E0 G v S g=false:=by
  obtain⟨k,m,u,O,o,rL,d,ks⟩:=y;exact Gg I.1
 have aA:=KI.1 H;have a1:A9 w.cell? g p y J:=I.on<|BW _ _;have hb:Az g w<|BS w g p y h':=Pm;have ap:A9 (Ag (BS w g p y h').cell?<|E0 G v S) g p y h':=by
  have:=LV (x:=y) (h:=h') a1;obtain⟨k,m,u,O,o,rL,d,ks⟩:=y;obtain⟨a6,Z,ab,ar,ad,a7,a8,ba⟩:=this;exact⟨(CV H).trans a6,(CV H).trans Z,(CV H).trans ab,(CV H).trans ar,(CV H).trans ad,(CV H).trans a7,(CV H).trans a8,(CV H).trans ba⟩
 have aw:∀q,q≠(aD g<|p+5)->q≠(aD g<|p+7)->Ag (BS w g p y h').cell? (E0 G v S) q=Ag w.cell? (E0 G v S) q:=by
  grind [Ag,jJ]
 refine⟨GD h.row λk az=>hb.block k (h.row.lt k az).2 (λe=>aA.2.1 (by rw[<-e];exact az.symm)),h.box.but hb oM,h.res.but hb oM,Wx I al ao ap aw h.tree,?_,?_,h.sz⟩
 .intro e bb
  obtain⟨q1,q2,bd,q4⟩:=h.pend e bb;refine⟨lm I al ao ap aw q4 q1,?_,bd,q4⟩;rcases q2 with q2|⟨O,Z,ab,ar,ad⟩
  .exact .inl q2
  .exact .inr ⟨O,Z,ab,by have:=hb.size;omega,λj=>(Oz _).trans<|ad j⟩
 .exact h.low.trans<|hb.below (B:=W.heap.size) (by have:=h.sz;omega) h.low.size
theorem Eo.push{ab:Hd}{O:Value}{P Q:List Pn}{e:Pn}(h:Eo W w S H x ab v P Q)(a6:w'.ownsRow (H+2) 29 1 O (P.length+1)<|pv P++pv [e])(I:w.grownBy w' v.ownBlock)(bp:O.ownBlock=v.ownBlock\/∃s,O.ownBlock=some s/\w.heap.size<=s)
 (bq:NJ (H+2) w (E0 H v S) e):Eo W w' S H x ab O (P++[e]) (e::Q):=by
 have step:AW (Ag w.cell?<|E0 H v S)<|Ag w'.cell?<|E0 H O S:=by
  refine Bv λk aA a7=>?_;obtain⟨a8,ba,bb⟩:=KI.1 a7
  refine⟨KI.2 ⟨a8,?_,bb⟩,I.block k aA ba⟩;grind
 have bd:∀k,k<H+2->w'.heap[k]? =w.heap[k]?:=by
  intro k aA;have bs:=h.res.1.lt;refine I.block k oM λe=>?_;have:=(h.row.lt k e.symm).1;omega
 have al:Below (H+2) w w':=⟨I.os,I.tape,I.output,I.size,bd⟩;have G:∀q:Addr,q.block<H+2->w'.cell? q=w.cell? q:=λq be=>al.cell be;refine⟨by rw[show(P++[e]).length=P.length+1 by simp,show pv (P++[e])=pv P++pv [e] by simp[pv]];exact a6,?_,?_,h.tree.on step,?_,?_,h.sz⟩
 .have:=h.box
  obtain⟨k,m,u,g,o,rL,d,ks⟩:=x;obtain⟨ao,J,ad,Z,ak,ap,ar,aw⟩:=this;exact⟨(G _ oS).trans ao,(G _ oS).trans J,(G _ oS).trans ad,(G _ oS).trans Z,(G _ oS).trans ak,(G _ oS).trans ap,(G _ oS).trans ar,(G _ oS).trans aw⟩
 .obtain⟨⟨ao,J,ad,Z,ak,ap,ar,aw⟩,bf⟩:=h.res
  exact⟨⟨(G _ oS).trans ao,(G _ oS).trans J,(G _ oS).trans ad,(G _ oS).trans Z,(G _ oS).trans ak,(G _ oS).trans ap,(G _ oS).trans ar,(G _ oS).trans aw⟩,λj=>(al.frozen oS).trans<|bf j⟩
 .have bg:∀e,NJ (H+2) w (E0 H v S) e->NJ (H+2) w' (E0 H O S) e:=by
   rintro e ⟨q1,q2,bi,q4⟩;refine⟨q1.on step,?_,bi,q4⟩;rcases q2 with q2|⟨az,J,ad,Z,ak⟩
   .exact .inl q2
   .rcases q1 with q1|⟨b,bu,ea,f,bk⟩
    .exact .inl q1
    .by_cases ab:e.ks=[]
     .exact .inl ab
     .refine .inr ⟨az,J,ad,N1 Z I.size,λj=>?_⟩
      have bl:some az≠v.ownBlock:=by
       have bn:0<e.ks.length:=CC.2 ab;have hx:=(bk 0 e.ks[0].1 e.ks[0].2<|NA bn).1.1;have:=(KI.1<|Gg hx).2.1;grind
      exact(World.frozen?_of_block (w:=w)<|I.block az Z bl).trans (ak j)
  intro a1 bo;rcases R1.1 bo with J|J
  .grind
  .exact bg a1<|h.pend a1 J
 .exact h.low.trans<|al.mono (by have:=h.sz;omega)
end Go.Proofs.YtchpdmjlicmdaaaGreatDoor
