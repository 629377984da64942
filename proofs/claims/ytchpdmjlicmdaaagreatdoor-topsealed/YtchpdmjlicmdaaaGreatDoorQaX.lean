/- Part: Qa Ff Fg Fh Shs Fj Fk. -/
import Derived.Test.YtchpdmjlicmdaaaGreatDoorWqX
import Derived.Shelf.SlSortCmp.NoneTotal
set_option maxRecDepth 100000
set_option maxHeartbeats 16000000
namespace Go.Proofs.YtchpdmjlicmdaaaGreatDoor
open Go.RowKit Go.Maps Go.Proofs.Tryz
variable {S:Nat->Prop}{W w w':World}{p:Addr}{ak b base cap i j m n size:Nat}{xs:List Value}{nm:BA}{D:DataW Unit}{v:Value}{c:AR}{d:Sp}{K:List (List Di)}
structure Mv (S:Nat->Prop) (w w':World):Prop where
 os:w'.os=w.os
 tape:w'.tape=w.tape
 output:w'.output=w.output
 size:w.heap.size<=w'.heap.size
 block:∀k,k<w.heap.size->¬S k->w'.heap[k]? =w.heap[k]?
theorem Mv.refl(S:Nat->Prop)(w:World):Mv S w w:=⟨rfl,rfl,rfl,rP _,λ_ _ _=>rfl⟩
theorem Mv.trans{a b c:World}(h:Mv S a b)(k:Mv S b c):Mv S a c:=
 ⟨k.os.trans h.os,k.tape.trans h.tape,k.output.trans h.output,Rz h.size k.size,λi G H=>(k.block i (N1 G h.size) H).trans<|h.block i G H⟩
theorem Mv.of(h:Below w.heap.size w w'):Mv S w w':=⟨h.os,h.tape,h.output,h.size,λk G _=>h.block k G⟩
theorem Mv.setCell(h:Mv S w w')(G:S p.block)(u:Value):Mv S w<|w'.setCell p u:=
 h.trans ⟨rfl,rfl,rfl,by simp[World.setCell],λk _ H=>Cv _ _ _ _ λe=>H<|e▸G⟩
theorem Mv.below(h:Mv S w w'){B:Nat}(G:B<=w.heap.size)(H:∀k,S k->B<=k):Below B w w':=
 ⟨h.os,h.tape,h.output,h.size,λk I=>h.block k (N1 I G) (λJ=>by have:=H k J;omega)⟩
theorem Mv.cell(h:Mv S w w')(G:p.block<w.heap.size)(H:¬S p.block):w'.cell? p=w.cell? p:=RE (w:=w)<|h.block _ G H
theorem Mv.frozen(h:Mv S w w')(G:p.block<w.heap.size)(H:¬S p.block):w'.frozen? p=w.frozen? p:=World.frozen?_of_block (w:=w)<|h.block _ G H
structure Pe where
 n:BA
 a:Option Addr
 c:Nat
 L:List Sp
def Pe.pl(e:Pe):BA×List Sp:=(e.n,e.L)
structure EX (w:World) (b:Nat) (G:List Pe):Prop where
 cell:∀(i:Nat) e,G[i]? =some e->w.cell? ⟨b,i*2,none⟩=some (.string e.n)/\w.cell? ⟨b,i*2+1,none⟩=some (.slice e.a e.L.length e.c)
 free:∀j,w.frozen? ⟨b,j,none⟩=false
 lt:b<w.heap.size
theorem EX.mv{H:List Pe}(h:EX w b H)(hb:Mv S w w')(G:¬S b):EX w' b H:=
 ⟨λi e I=>⟨(hb.cell (p:=(aD b<|i*2)) h.lt G).trans (h.cell i e I).1,(hb.cell (p:=(aD b<|i*2+1)) h.lt G).trans (h.cell i e I).2⟩,λj=>(hb.frozen (p:=(aD b j)) h.lt G).trans<|h.free j,N1 h.lt hb.size⟩
theorem EX.below{G:List Pe}(h:EX w b G)(hb:Below w.heap.size w w'):EX w' b G:=h.mv (S:=λ_=>False) (Mv.of hb) λe=>e
theorem EX.set{G:List Pe}(h:EX w b G){o:Pe}(I:G[i]? =some o)(e:Pe):EX ((w.setCell (aD b<|i*2)<|.string e.n).setCell (aD b<|i*2+1)<|.slice e.a e.L.length e.c) b<|G.set i e:=by
 obtain⟨J,O⟩:=h.cell i o I;refine⟨λj f H=>?_,λj=>by rw[Kn,Kn];exact h.free j,by rw[tJ,tJ];exact h.lt⟩;rw[gt]at H;split at H
 .grind [NG,N2]
 .rename_i e1
  obtain⟨q1,q2⟩:=h.cell j f H;refine⟨?_,?_⟩
  .rw[NG _ _ _ _ (λe=>by have:=(Addr.mk.inj e).2.1;omega),NG _ _ _ _ (λe=>by have:=(Addr.mk.inj e).2.1;omega)];exact q1
  .rw[NG _ _ _ _ (λe=>by have:=(Addr.mk.inj e).2.1;omega),NG _ _ _ _ (λe=>by have:=(Addr.mk.inj e).2.1;omega)];exact q2
theorem cQ{G:List Pe}(h:EX w b G)(ap:G.length<=1000)(ar:∀e∈G,e.L.length<=1000):
 Calls prog 149 #[sL b 0 G.length cap,.func (.func 112) #[] #[]] w λe w'=>((e=.returned (iN<|-1)/\∀x∈G,x.L≠[])\/∃i x,e=.returned (iN (i:Nat))/\G[i]? =some x/\x.L=[]/\∀x∈G.take i,x.L≠[])/\Below w.heap.size w w':=by
 obtain⟨N,J⟩:=Aq G.length;have aw:Hid _:=h;have az:Hid _:=ar;rw[J.out]at ap⊢;go_enter func149,ntmps149;go_wp2;go_loopw [8] (λi wr=>∃j:Nat,j<=N/\i=iN j/\Hid (∀x∈G.take j,x.L≠[])/\Below w.heap.size w wr) (λi _=>N-(intOf i).toNat)
 case atStart=>exact⟨0,N7 _,rfl,λx hx=>(by simp at hx),NB _ _⟩
 case round=>
  obtain⟨j,bd,rfl,O,I⟩:=hrel;by_cases aA:j<N;rotate_left
  .have a1:decide ((j:Int)<(N:Int))=false:=NM oM
   have a6:Hid (∀x∈G,x.L≠[]):=by
    have H:=O.out;rw[R3 (by rw[J.out];omega)]at H;exact H
   go_wp2;go_ret;exact⟨.inl ⟨rfl,a6⟩,I⟩
  have a1:(j:Int)<(N:Int):=by omega
  obtain⟨x,hx⟩:∃x,G[j]? =some x:=⟨_,NA (by rw[J.out];exact aA)⟩;obtain⟨c0,c1⟩:=(aw.below I).cell j x hx;have a7:=az.out x<|NW hx;have Z:=hid hx;have ab:=hid<|Wd x.n x.a x.L.length x.c wr a7;obtain⟨t,ad⟩:∃t,(decide (x.L.length=0))=t:=⟨_,rfl⟩;have ak:=hid ad;rw[ad]at ab;have a8:Below wr.heap.size wr<|wr.alloc<|Fv x.n x.a x.L.length x.c:=bN;have al:=I.trans<|a8.mono I.size;go_wp2_with fail
  refine ab.mono ?_;rintro e be ⟨rfl,rfl⟩;cases t
  .have ba:Hid (∀y∈G.take (j+1),y.L≠[]):=λy ao=>by
    rw[CO,Z.out]at ao;rcases Cq.1 ao with H|H
    .exact O y H
    .simp at H
     rw[H];intro e;have:=ak.out;rw[e]at this;simp at this
   go_wp2;go_roundw
   case rel=>exact⟨j+1,by omega,by go_num,ba,al⟩
   case measure=>(simp[intOf];try omega)
  .have bb:Hid<|x.L=[]:=R0<|C6 ak
   go_wp2;go_ret;exact⟨.inr ⟨j,x,rfl,Z,bb,O⟩,al⟩
theorem aN{P:Program}(w:World)(t e ab:TypeId)(G H:Value)(I:P.underlying t=some (.slice e))(ad:∀w,(zeroValue e).run P w=.ok (.agg #[G,H]) w)(ak:G.oneCell'=true)(al:H.oneCell'=true)(ao:(Value.agg #[G,H]).cells=#[G,H])(b o n c:Nat)
 (ap:∀j,j<n*2->(w.cell?<|aD b<|o+j).isSome=true) (ar:∀j,j<n*2->w.frozen? (aD b<|o+j)=false):
 ∃J:List Value,J.length=n*2/\(Builtin.clear_ #[t] ab #[sL b o n c]).run P w=.ok (.tuple #[]) (w.setCells b o J):=by
 cases n with
 |zero=>exact⟨[],rfl,by simp[Builtin.clear_,run_underlying I,World.setCells]⟩
 |succ m=>
  have aw:(Builtin.zeroCells #[G,H]<|m+1).toList.length=(m+1)*2:=by simp[Builtin.zeroCells]
  refine⟨(Builtin.zeroCells #[G,H]<|m+1).toList,aw,?_⟩
  have O:=run_storeCells_cells (P:=P) b o (Builtin.zeroCells #[G,H]<|m+1).toList 0 w (λj az=>by rw[tl];exact ap j oM) (λj az=>by rw[tl];exact ar j oM) (by
   intro v Z;simp only[Builtin.zeroCells,Array.toList_map,CQ]at Z;obtain⟨i,_,rfl⟩:=Z;have:i%(#[G,H]:Array Value).size<2:=Nat.mod_lt _ oS;generalize i%(#[G,H]:Array Value).size=r at this;match r,this with
   |0,_=>exact ak
   |1,_=>exact al)
  rw[tl]at O;simp[Builtin.clear_,run_underlying I,ad,ao,O]
theorem WY{o:Nat}(G:List Value):Mv (λk=>k=b) w<|w.setCells b o G:=by
 induction G generalizing w o with
 |nil=>exact Mv.refl _ _
 |cons v r H=>exact(Mv.setCell (S:=λk=>k=b) (Mv.refl _ w) (p:=(aD b o)) rfl v).trans H
theorem qq(w:World):(zeroValue 169).run prog w=.ok (.agg #[.string ⟨#[]⟩,nL]) w:=by kernel_rfl
theorem bO{α:Type}(R:List α)(k:Nat)(x:α):(R.set k x).take k=R.take k:=by
 apply List.ext_getElem?;intro q;rw[Kp,Kp];split
 .rw[List.getElem?_set_ne oM]
 .rfl
def Ey(G:List Pe):List Pe:=G.filter λe=> !e.L.isEmpty
theorem VH{G:List Pe}(h:∀x∈G,x.L≠[]):Ey G=G:=List.filter_eq_self.2 λx hx=>by
 have:=h x hx;cases hL:x.L with
 |nil=>exact absurd hL this
 |cons a b=>rfl
theorem QX{G:List Pe}{x:Pe}(h:G[j]? =some x):Ey (G.take<|j+1)=Ey (G.take j)++(if x.L=[]then []else [x]):=by grind [Ey,CO]
theorem kF{G:List Pe}(h:EX w b G)(aA:G.length<=1000)(a1:∀e∈G,e.L.length<=1000)(bs:G.length<=cap)(_hcap2:cap<=9223372036854775807):
 Calls prog 111 #[sL b 0 G.length cap,.func (.func 112) #[] #[]] w λe w'=>e=.returned (sL b 0 (Ey G).length cap)/\EX w' b (Ey G)/\Mv (λk=>k=b) w w':=by
 have a6:Hid _:=cQ (cap:=cap) h aA a1;obtain⟨N,I⟩:=Aq G.length;have a7:Hid _:=h;have bu:Hid _:=a1;rw[I.out]at aA bs a6⊢;go_enter func111,ntmps111;go_wp2_with fail
 refine rQ a6 ?_;rintro e c3 ⟨(⟨rfl,bx⟩|⟨i,x,rfl,hx,bA,bB⟩),ab⟩
 .have a8:Hid<|Ey G=G:=VH bx
  have al:Hid _:=a7.below ab;go_wp2;go_ret;refine⟨?_,?_,Mv.of ab⟩
  .rw[a8.out,I.out];rfl
  .rw[a8.out];exact al
 have ba:i<N:=by rw[<-I.out];exact(NE.1 hx).1
 have bC:Hid<|G.take i=Ey (G.take<|i+1):=by
  show _=_;rw[QX hx,NS bA,te,VH bB]
 have al:Hid _:=a7.below ab;have c4:((i:Int)==-1)=false:=by rw[beq_eq_false_iff_ne];omega
 have c5:=hid ba;go_wp2;go_loopg [5,6,7] (N-(i+1)) (λbF bG bH _ wr=>∃(k j:Nat) (R:List Pe),bG=iN k/\bH=iN j/\k<j/\j<=N/\N-j<=bF/\R.length=N/\Hid (R.take k=Ey (G.take j)/\R.drop j=G.drop j)/\Hid (EX wr b R)/\Mv (λq=>q=b) w wr)
 case atStart=>exact⟨i,i+1,G,rfl,by go_num,by omega,ba,rP _,I,⟨bC,rfl⟩,al,Mv.of ab⟩
 case round=>
  obtain⟨k,j,R,rfl,rfl,c6,c8,c9,bb,J,H,bd⟩:=hrel;by_cases bY:j<N
  .have b0:decide ((j:Int)<(N:Int))=true:=NY oM
   obtain⟨x,hx⟩:∃x,G[j]? =some x:=⟨_,NA (by rw[I.out];exact bY)⟩;have b1:R[j]? =some x:=by
    have ad:=RX (λl=>l[0]?) J.2;simp only[Kq,tl]at ad;rw[ad];exact hx
   obtain⟨o,ao⟩:∃o,R[k]? =some o:=⟨_,NA oM⟩;obtain⟨c0,c1⟩:=H.cell j x b1;have be:Below wr.heap.size wr<|wr.alloc<|Fv x.n x.a x.L.length x.c:=bN;have bf:Below wr.heap.size wr<|(wr.alloc<|Fv x.n x.a x.L.length x.c).alloc<|Fv x.n x.a x.L.length x.c:=be.alloc be.size _;obtain⟨n0,b2⟩:=GS wr (.string x.n) (.slice x.a x.L.length x.c) 169;have b4:=Ai ((NB _<|wr.alloc<|Fv x.n x.a x.L.length x.c).alloc (rP _)<|Fv x.n x.a x.L.length x.c) _ _ n0;have b6:=Ai ((NB _<|wr.alloc<|Fv x.n x.a x.L.length x.c).alloc (rP _)<|Fv x.n x.a x.L.length x.c) _ _ b2;have O:=H.out.below bf;obtain⟨b7,b9⟩:=O.cell k o ao;have f0:=O.free<|k*2;have f1:=O.free<|k*2+1;have bg:Hid _:=O.set ao x;have bi:=bd.trans<|Mv.of bf;have ce:=bu.out x<|NW hx;have bk:Hid (cL 112 #[.agg #[.string x.n,.slice x.a x.L.length x.c]] (wr.alloc<|Fv x.n x.a x.L.length x.c) λe w'=>e=.returned (.bool<|decide (x.L.length=0))/\w'=(wr.alloc<|Fv x.n x.a x.L.length x.c).alloc (Fv x.n x.a x.L.length x.c)):=Wd x.n x.a x.L.length x.c _ ce;have bl:=hid hx;have cf:Hid _:=O;have da:=hid ao;have ap:Hid<|R.drop (j+1)=G.drop (j+1):=by
    show _=_;have ad:=RX (List.drop 1) J.2;rwa [List.drop_drop,List.drop_drop]at ad
   obtain⟨t,bn⟩:∃t,(decide (x.L.length=0))=t:=⟨_,rfl⟩;have bo:=hid bn;rw[bn]at bk;go_wp2_with fail
   refine bk.mono ?_;rintro e dd ⟨rfl,rfl⟩;cases t
   .have ch:x.L≠[]:=λe=>by have:=bo.out;rw[e]at this;simp at this
    have ar:Hid<|(R.set k x).take (k+1)=Ey (G.take<|j+1)/\(R.set k x).drop (j+1)=G.drop (j+1):=by
     refine⟨?_,?_⟩
     .rw[QX bl.out,NO ch,<-J.out.1,CO,bO,List.getElem?_set_self oM];rfl
     .rw[List.drop_set,NS oM];exact ap
    go_wp2;go_roundg (N-(j+1))
    case measure=>omega
    case rel=>exact⟨k+1,j+1,R.set k x,by go_num,by go_num,by omega,by omega,rP _,by rw[List.length_set];exact bb,ar,bg,(bi.setCell (p:=(aD b<|k*2)) rfl _).setCell (p:=(aD b<|k*2+1)) rfl _⟩
   .have bp:x.L=[]:=R0<|C6 bo
    have ar:Hid<|R.take k=Ey (G.take<|j+1)/\R.drop (j+1)=G.drop (j+1):=⟨by rw[QX bl.out,NS bp,te];exact J.1,ap⟩;clear bp J ap bg f0 f1 b7 b9 b4 b6;go_wp2;go_roundg (N-(j+1))
    case measure=>omega
    case rel=>exact⟨k,j+1,R,rfl,by go_num,by omega,by omega,rP _,bb,ar,cf,bi⟩
  .obtain rfl:j=N:=by omega
   have b0:=NM oM;have bq:Hid<|R.take k=Ey G:=by
    have cl:=J.out.1;rwa [R3 (l:=G) (by rw[I.out];omega)]at cl
   have HK:Hid<|k=(Ey G).length:=by
    show _=_;rw[<-bq.out,C3];omega
   have co:∀q,q<(j-k)*2->(wr.cell?<|aD b<|k*2+q).isSome=true:=λq ak=>by
    obtain⟨y,cr⟩:∃y,R[k+q / 2]? =some y:=⟨_,NA oM⟩;obtain⟨aw,az⟩:=H.cell _ y cr;rcases Nat.mod_two_eq_zero_or_one q with e|e
    .rw[show k*2+q=(k+q / 2)*2 by omega,aw];rfl
    .rw[show k*2+q=(k+q / 2)*2+1 by omega,az];rfl
   obtain⟨Z,de,dg⟩:=aN (P:=prog) wr 165 169 0 (.string ⟨#[]⟩) nL underlying165 qq rfl rfl rfl b (k*2) (j-k) (cap-k) co (λq _=>H.free _);have cx:Hid<|EX (wr.setCells b (k*2) Z) b<|Ey G:=by
    refine⟨λq e ak=>?_,λq=>by rw[CF];exact H.free q,by have:=(WY (w:=wr) (b:=b) (o:=k*2) Z).size;exact N1 H.lt this⟩;have cD:q<k:=by rw[HK.out];exact(NE.1 ak).1
    rw[<-bq.out,List.getElem?_take_of_lt cD]at ak;obtain⟨aw,az⟩:=H.cell q e ak;exact⟨(World.cell?_setCells_out b Z _ _ _ λ_ _=>.inl (by show q*2<k*2;omega)).trans aw,(World.cell?_setCells_out b Z _ _ _ λ_ _=>.inl (by show q*2+1<k*2;omega)).trans az⟩
   have cF:=bd.trans<|WY (w:=wr) (b:=b) (o:=k*2) Z;go_wp2;go_ret;exact⟨by rw[<-HK.out];rfl,cx,cF⟩
theorem IP{e:TypeId}{g:Nat}(h:w.ownsRow base e size (.slice (some ⟨g,0,none⟩) n cap) n xs)(j:Nat)(u:Value):(w.setCell ⟨g,j,none⟩ u).ownsRow base e size (.slice (some ⟨g,0,none⟩) n cap) n<|xs.set j u:=by
 refine⟨by rw[List.length_set];exact h.1,.inr ?_⟩;rcases h.2 with⟨G,_⟩|⟨ad,ak,H,G,hb,I,J,O,Z,ab⟩
 .cases G
 simp only[CH,RV,Cj,true_and]at G;obtain⟨⟨rfl,_⟩,rfl⟩:=G;refine⟨g,cap,H.setIfInBounds j u,rfl,hb,?_,J,O,by rw[Array.size_setIfInBounds];exact Z,?_⟩
 .obtain⟨al,ao⟩:=N3.1 I
  show(w.heap.modify g _)[g]? =_;grind
 .rw[Array.toList_setIfInBounds,List.take_set,ab]
def E8:List Pe->List Value
 |[]=>[]
 |e::r=>.string e.n::.slice e.a e.L.length e.c::E8 r
theorem X4:∀A B:List Pe,E8 (A++B)=E8 A++E8 B
 |[],_=>rfl
 |e::r,B=>by simp[E8,X4 r B]
theorem SK:∀(A:List Pe) (i:Nat) (e:Pe),A[i]? =some e->(E8 A)[i*2]? =some (.string e.n)/\(E8 A)[i*2+1]? =some (.slice e.a e.L.length e.c):=by intro A i e;induction A generalizing i e<;>grind [E8]
theorem Xw:∀(A:List Pe),∀u∈E8 A,u.oneCell'=true
 |[],u,h=>by cases h
 |e::r,u,G=>by
  simp[E8]at G;rcases G with rfl|rfl|G
  .rfl
  .rfl
  .exact Xw r u G
theorem XB:∀(A:List Pe) (i:Nat) (e o:Pe),A[i]? =some o->o.n=e.n->E8 (A.set i e)=(E8 A).set (i*2+1) (.slice e.a e.L.length e.c)
 |[],i,e,o,h,_=>by simp at h
 |t::A,0,e,o,h,hn=>by
  simp at h;subst h;simp[E8,hn]
 |t::A,i+1,e,o,h,hn=>by
  have:=XB A i e o (by simpa using h) hn;rw[show(i+1)*2+1=i*2+1+1+1 by omega];simp[E8,this]
def Je(nm:BA):List BA->Nat->Option Nat
 |[],_=>none
 |x::r,i=>if x=nm then some i else Je nm r (i+1)
theorem Xy:∀{N:List BA} {i:Nat},nm∉N->Je nm N i=none:=by intro N i;induction N generalizing i<;>grind [Je]
theorem YB{nm:BA}:∀{N:List BA} {i:Nat},nm∈N->∃k,Je nm N i=some (i+k)/\N[k]? =some nm
 |[],_,h=>by cases h
 |x::r,i,h=>by
  rw[Je];by_cases e:x=nm
  .rw[NS e];exact⟨0,rfl,by simp[e]⟩
  .rw[NO e]
   obtain⟨k,G,H⟩:=YB (i:=i+1) ((R1.1 h).resolve_left λq=>e q.symm);exact⟨k+1,by rw[G];congr 1;omega,by simpa using H⟩
theorem jn{x:BA}:∀{N:List BA} {i:Nat},Je nm (N++[x]) i=(Je nm N i).or (if x=nm then some (i+N.length)else none):=by intro N i;induction N generalizing i<;>grind [Je]
abbrev kN(nm:BA):Lit:=.string nm.data.toList
theorem oY{a b:BA}(h:a≠b):kN a≠kN b:=λe=>h (by
 have H:a.data.toList=b.data.toList:=by injection e
 have G:a.data=b.data:=Array.toList_inj.1 H;cases a;cases b;simp at G;rw[G])
theorem Y0(nm:BA):WideAt.IsKeyLit<|kN nm:=by simp[WideAt.IsKeyLit]
def Me(D:DataW Unit)(N:List BA):Prop:=IsMap D/\∀nm:BA,Maps.has D (kN nm)=(Je nm N 0).isSome/\D.atKey (kN nm) (.lit<|.int .i64 0)=.lit (.int .i64 (((Je nm N 0).getD 0:Nat):Int))
theorem jm:Me (.map []) []:=⟨isMap_empty,λ_=>⟨rfl,rfl⟩⟩
theorem kZ{N:List BA}{x:BA}(h:Me D N)(H:x∉N):Me (D.put (kN x)<|.lit<|.int .i64 (N.length:Int))<|N++[x]:=by
 refine⟨h.1.put _ _,λnm=>?_⟩;rw[jn];by_cases e:x=nm
 .subst e
  rw[NS rfl,Xy H,has_put_same h.1<|Y0 _,atKey_put_same h.1<|Y0 _];grind
 .have G:=oY λq=>e<|Eq.symm q
  rw[NO e,Option.or_none,has_put_other G,atKey_put_other G];exact h.2 nm
theorem ZI:Keyed prog 9:=string_keyed underlying9
theorem pU(w:World):(zeroValue 3).run prog w=.ok (.int .i64 0) w:=by kernel_rfl
theorem Rs(h:w.ownsMap prog 9 (plainElem prog 3) b n D)(hb:w'.heap[b]? =w.heap[b]?):w'.ownsMap prog 9 (plainElem prog 3) b n D:=by
 obtain⟨G,H,I,r⟩:=h;exact⟨G,H,hb.trans I,r⟩
theorem ML{t:TypeId}(h:w.ownsMap prog 9 (plainElem prog 3) b n D)(H:w.ownsRow base t size v m xs):v.ownBlock≠some b:=by
 obtain⟨J,O,I,r⟩:=h;rcases H.2 with⟨rfl,_⟩|⟨g,cap,Z,rfl,_,G,_⟩
 .simp[Value.ownBlock]
 .intro e
  simp[Value.ownBlock]at e;subst e;rw[I]at G;cases G
theorem Na{O Z ab ad al:Nat}{H I:TypeId}{G J:Value}{ao ap:List Value}(az:H≠I)(ar:w.ownsRow O H ak G ab ao)(aw:w.ownsRow Z I al J ad ap):G.ownBlock=none\/G.ownBlock≠J.ownBlock:=by
 rcases ar.2 with⟨rfl,_⟩|⟨g,cap,aA,rfl,_,a1,_⟩
 .exact .inl rfl
 .right
  rcases aw.2 with⟨rfl,_⟩|⟨a6,a7,a8,rfl,_,ba,_⟩;all_goals grind [Value.ownBlock]
structure FN (w W:World) (mb:Nat) (v:Value) (E:List Pe):Prop where
 low:Below w.heap.size w W
 row:W.ownsRow w.heap.size 169 2 v E.length<|E8 E
 each:∀e∈E,W.ownsRow w.heap.size 164 2 (.slice e.a e.L.length e.c) e.L.length<|Ex e.L
 apart:∀(i j:Nat) e f,E[i]? =some e->E[j]? =some f->i≠j->e.a≠f.a
 ne:∀e∈E,e.L≠[]
 mp:∃D,W.ownsMap prog 9 (plainElem prog 3) mb E.length D/\Me D (E.map (·.n))
 mlow:w.heap.size<=mb
theorem FN.keep{H:World}{G:Nat}{E:List Pe}(h:FN w W G v E)(hb:Below W.heap.size W H):FN w H G v E:=by
 obtain⟨D,I,J⟩:=h.mp;exact⟨h.low.trans<|hb.mono h.low.size,Fy h.row hb,λe O=>Fy (h.each e O) hb,h.apart,h.ne,⟨D,Rs I<|hb.block G I.lt,J⟩,h.mlow⟩
theorem Ia{t:TypeId}{a:Option Addr}(h:w.ownsRow base t size (.slice a n cap) n xs)(G:0<n):∃g,a=some ⟨g,0,none⟩/\base<=g/\g<w.heap.size:=by cases h<;>grind
theorem FN.new{G ao:World}{aA:Value}{E:List Pe}{s:Sp}(h:FN w W ak v E)(ba:G.ownsMap prog 9 (plainElem prog 3) ak (E.length+1) D)(bb:Me D<|E.map (·.n)++[nm])(H:W.grownBy G<|some ak)
 (bd:ao.ownsRow w.heap.size 169 2 aA (E.length+1)<|E8 E++E8 [⟨nm,some ⟨G.heap.size,0,none⟩,1,[s]⟩])
 (ab:((G.alloc<|Lp s.b s.p s.ly).alloc<|Fv nm (some ⟨G.heap.size,0,none⟩) 1 1).grownBy ao v.ownBlock):
 FN w ao ak aA (E++[⟨nm,some ⟨G.heap.size,0,none⟩,1,[s]⟩]):=by
 have ar:((G.alloc<|Lp s.b s.p s.ly).alloc<|Fv nm (some<|aD G.heap.size 0) 1 1).heap.size=G.heap.size+1+1:=by rw[ND,ND]
 have be:w.heap.size<=G.heap.size:=Rz h.low.size H.size;have a1:∀g,v.ownBlock=some g->w.heap.size<=g/\g<W.heap.size:=λg ad=>⟨(h.row.lt g ad).1,(h.row.lt g ad).2⟩
 have a6:∀k,k<W.heap.size->k≠ak->v.ownBlock≠some k->ao.heap[k]? =W.heap[k]?:=λk aw ap bf=>by
  rw[ab.block k (by rw[ar];have:=H.size;omega) λe=>bf e.symm,ti _ _ _ (by rw[ND];have:=H.size;omega),ti _ _ _ (by have:=H.size;omega)];exact H.block k aw<|by simpa using ap
 obtain⟨bo,az,_⟩:=h.mp;have bg:Below w.heap.size W ao:=⟨ab.os.trans H.os,ab.tape.trans H.tape,ab.output.trans H.output,by have ap:=ab.size;rw[ar]at ap;have:=H.size;omega,λk aw=>a6 k (N1 aw h.low.size) (λe=>by have:=h.mlow;omega) (λe=>by have:=(a1 k e).1;omega)⟩
 have bi:((G.alloc<|Lp s.b s.p s.ly)).ownsRow w.heap.size 164 2 (sL G.heap.size 0 1 1) 1<|Ex [s]:=
  ⟨rfl,.inr ⟨G.heap.size,1,#[pO s.b s.p,iN s.ly],rfl,be,tM G _,rP _,by decide,rfl,rfl⟩⟩
 refine⟨h.low.trans bg,?_,?_,?_,?_,?_,h.mlow⟩
 .rw[N6,X4];exact bd
 .intro e I
  rcases Cq.1 I with I|I
  .have al:=h.each e I
   refine GD al λg ad=>?_;have bk:=ML az al
   have bl:=Na (show 164≠169 by decide) al h.row;refine a6 g (al.lt g ad).2 (λZ=>bk<|by rw[ad,Z]) λZ=>?_;rcases bl with q|q
   .rw[ad]at q;cases q
   .exact q<|ad.trans Z.symm
  .rw[CD]at I
   subst I;refine(bi.alloc _).kept ab (.inr λZ=>?_);have ap:=(a1 G.heap.size (by rw[<-Z];rfl)).2;have:=H.size;omega
 .intro i j e f O J bn
  have a7:∀(i:Nat) e,E[i]? =some e->e.a≠some (aD G.heap.size 0):=λi e O Z=>by
   have al:=h.each e<|NW O;obtain⟨g,a8,_,bp⟩:=Ia al<|CC.2<|h.ne e<|NW O;rw[Z]at a8;simp only[RV,Cj]at a8;have:=H.size;omega
  rw[List.getElem?_append]at O J;split at O
  .split at J
   .exact h.apart i j e f O J bn
   .rw[List.getElem?_singleton]at J
    split at J
    .cases J;exact a7 i e O
    .cases J
  .rename_i hil
   rw[List.getElem?_singleton]at O;split at O
   .cases O
    split at J
    .exact λZ=>a7 j f J Z.symm
    .rw[List.getElem?_singleton]at J
     split at J
     .omega
     .cases J
   .cases O
 .intro e I
  rcases Cq.1 I with I|I
  .exact h.ne e I
  .rw[CD]at I
   subst I;simp
 .refine⟨D,?_,by rw[CT];exact bb⟩
  rw[N6];refine Rs ba ?_;have bq:=az.lt;rw[ab.block ak (by rw[ar];have:=H.size;omega) λe=>ML az h.row e.symm,ti _ _ _ (by rw[ND];have:=H.size;omega),ti _ _ _ (by have:=H.size;omega)]
theorem FN.add{W2:World}{I:Nat}{E:List Pe}{e:Pe}{s:Sp}{a2:Option Addr}{c2:Nat}(h:FN w W ak (.slice (some ⟨I,0,none⟩) E.length cap) E)(Z:E[i]? =some e)
 (ba:W2.ownsRow w.heap.size 164 2 (.slice a2 (e.L.length+1) c2) (e.L.length+1)<|Ex e.L++Ex [s]) (O:(W.alloc<|Lp s.b s.p s.ly).grownBy W2 (Value.slice e.a e.L.length e.c).ownBlock)
 (ap:(Value.slice a2 (e.L.length+1) c2).ownBlock=(Value.slice e.a e.L.length e.c).ownBlock\/(Value.slice a2 (e.L.length+1) c2).ownBlock=some (W.alloc<|Lp s.b s.p s.ly).heap.size):
 FN w (W2.setCell ⟨I,i*2+1,none⟩<|.slice a2 (e.L.length+1) c2) ak (.slice (some ⟨I,0,none⟩) E.length cap) (E.set i ⟨e.n,a2,c2,e.L++[s]⟩):=by
 have bb:=NW Z;have az:=h.each e bb;have bi:=CC.2<|h.ne e bb;obtain⟨ge,ea,b2,b4⟩:=Ia az bi;obtain⟨bk,aA,b6,b7⟩:=Ia ba oM;rw[ND]at ap;rw[ea,aA]at ap;simp only[Value.ownBlock,RV]at ap;rw[ea]at O;simp only[Value.ownBlock]at O;have b9:=(NE.1 Z).1;obtain⟨ce,ar,bl,bn⟩:=Ia h.row oM;simp only[RV,Cj]at ar;obtain⟨ar,_⟩:=ar;subst ar;have bo:I≠ge:=λq=>by
  rcases Na (show 169≠164 by decide) h.row az with J|J
  .cases J
  .exact J (by rw[ea];show some I=some ge;rw[q])
 obtain⟨D,aw,bp⟩:=h.mp;have bq:ak≠ge:=λq=>ML aw az (by rw[ea,q];rfl);have bs:ak≠I:=λq=>ML aw h.row (by rw[q];rfl)
 have bu:=O.size;rw[ND]at bu;have a1:∀k,k<W.heap.size->k≠ge->W2.heap[k]? =W.heap[k]?:=λk G a6=>by
  rw[O.block k (by rw[ND];omega) (by simpa using a6),ti _ _ _ G]
 have bd:∀k,k<W.heap.size->k≠ge->k≠I->(W2.setCell (aD I<|i*2+1)<|.slice a2 (e.L.length+1) c2).heap[k]? =W.heap[k]?:=λk G a6 bx=>by
  rw[Cv _ _ _ _<|by exact bx];exact a1 k G a6
 have bA:bk≠I:=by
  grind
 have bB:Below w.heap.size W W2:=⟨O.os,O.tape,O.output,by omega,λk G=>a1 k (N1 G h.low.size) oM⟩;refine⟨h.low.trans<|bB.setCell (p:=(aD I<|i*2+1)) bl _,?_,?_,?_,?_,?_,h.mlow⟩
 .rw[List.length_set,XB E i ⟨e.n,a2,c2,e.L++[s]⟩ e Z rfl,show(e.L++[s]).length=e.L.length+1 by simp]
  exact IP (GD h.row λk G=>by
   simp[Value.ownBlock]at G;subst G;exact a1 I bn bo) _ _
 .intro f a7
  obtain⟨j,H⟩:=R7 a7;rw[gt]at H;split at H
  .cases H
   .show World.ownsRow _ _ _ _ (.slice a2 (e.L++[s]).length c2) (e.L++[s]).length (Ex<|e.L++[s])
    rw[Rt,show(e.L++[s]).length=e.L.length+1 by simp];exact GD ba λk G=>by
     rw[aA]at G;simp[Value.ownBlock]at G;subst G;exact Cv _ _ _ _ (by exact bA)
  .rename_i hij
   have al:=h.each f<|NW H;obtain⟨gf,ab,bC,be⟩:=Ia al<|CC.2<|h.ne f<|NW H;have bF:gf≠ge:=λq=>h.apart j i f e H Z (λq=>hij q.symm) (by rw[ab,ea,q]);have bG:gf≠I:=λq=>by
    rcases Na (show 169≠164 by decide) h.row al with J|J
    .cases J
    .exact J (by rw[ab];show some I=some gf;rw[q])
   refine GD al λk G=>?_;rw[ab]at G
   simp[Value.ownBlock]at G;subst G;exact bd _ be bF bG
 .
  have bf:∀(j:Nat) f,E[j]? =some f->j≠i->f.a≠a2:=λj f H bH J=>by
   have al:=h.each f<|NW H;obtain⟨gf,ab,bC,be⟩:=Ia al<|CC.2<|h.ne f<|NW H;rw[ab,aA]at J;simp only[RV,Cj]at J;rcases ap with q|q
   .exact h.apart j i f e H Z bH (by rw[ab,ea];simp)
   .omega
  intro p q f bg ao ad bY;rw[gt]at ao ad;split at ao
  .rename_i J
   cases ao;split at ad
   .omega
   .exact λa8=>bf q bg ad oM a8.symm
  .split at ad
   .cases ad
    exact bf p f ao oM
   .exact h.apart p q f bg ao ad bY
 .intro f a7
  obtain⟨j,H⟩:=R7 a7;rw[gt]at H;split at H
  .cases H;simp
  .exact h.ne f<|NW H
 .refine⟨D,?_,?_⟩
  .rw[List.length_set]
   exact Rs aw<|bd ak aw.lt bq bs
  .have J:(E.set i ⟨e.n,a2,c2,e.L++[s]⟩).map (·.n)=E.map (·.n):=by
    rw[List.map_set];apply List.ext_getElem?;intro j;rw[gt];split
    .rename_i a8
     subst a8;obtain⟨b0,b1⟩:=NE.1 Z;simp[b0,b1]
    .rfl
   rw[J];exact bp
theorem FN.start{G:Nat}(I:Below w.heap.size w W)(J:w.heap.size<=G)(O:W.ownsMap prog 9 (plainElem prog 3) G 0 D)(Z:Me D []):FN w W G (.slice none 0 0) []:=
 ⟨I,CZ _ _ _ _,λe H=>(by cases H),λi j e f ab=>(by simp at ab),λe H=>(by cases H),⟨D,O,Z⟩,J⟩
def JJ(c:AR)(d:Sp)(k:List Di):Prop:=k.length=d.x.dirKs.length/\∀(j:Nat) p,d.x.dirKs[j]? =some p->∃(G H:Nat) (s:Sp),d.h.ak=some (aD G H)/\k[j]? =some (p.1,s)/\s.b=G/\s.p=H+j*9+1/\s.ly=d.ly/\s.x=p.2/\c (aD G<|H+j*9)=some (.string p.1)/\C8 c s
theorem qy(h:C8 c d):∃k,JJ c d k:=by
 obtain⟨b,p,ly,⟨H,m,u,g,o,rL,I,ks⟩,hd⟩:=d;by_cases ab:H=2
 .obtain⟨_,_,_,ak⟩:=Cs.1 h.2
  have ad:(Nd.mk H m u g o rL I ks).dirKs=ks:=NS ab;rcases ak with e|⟨J,O,e,f,Z⟩
  .refine⟨[],?_⟩
   unfold JJ;rw[show(Sp.mk b p ly (.mk H m u g o rL I ks) hd).x.dirKs=ks from ad,e];exact⟨rfl,λj p G=>by simp at G⟩
  .refine⟨ks.mapIdx λj p=>(p.1,⟨J,O+j*9+1,ly,p.2,f j⟩),?_⟩
   unfold JJ;rw[show(Sp.mk b p ly (.mk H m u g o rL I ks) hd).x.dirKs=ks from ad];refine⟨by simp,λj q G=>⟨J,O,⟨J,O+j*9+1,ly,q.2,f j⟩,e,?_,rfl,rfl,rfl,rfl,(Z j q.1 q.2 G).1.1,(Z j q.1 q.2 G).1.2,(Z j q.1 q.2 G).2⟩⟩;rw[List.getElem?_mapIdx,G];rfl
 .refine⟨[],?_⟩
  unfold JJ;rw[show(Sp.mk b p ly (.mk H m u g o rL I ks) hd).x.dirKs=[]from NO ab];exact⟨rfl,λj p G=>by simp at G⟩
theorem mT{D:List Sp}(G:∀d∈D,C8 c d):∃K:List<|List Di,K.length=D.length/\∀(i:Nat) d,D[i]? =some d->∃k,K[i]? =some k/\JJ c d k:=by
 induction D with
 |nil=>exact⟨[],rfl,λi d H=>by simp at H⟩
 |cons d D I=>
  obtain⟨K,J,Z⟩:=I λe O=>G e<|R4 _ O;obtain⟨k,ab⟩:=qy<|G d<|N4 ..
  refine⟨k::K,by simp[J],λi e H=>?_⟩;grind
theorem kO{k:List Di}(h:JJ c d k)(nm:BA):(Ec nm k).map Sp.pr=(Ek nm d.x).map λy=>(y,d.ly):=by
 rw[LR];obtain⟨J,O⟩:=h;generalize d.x.dirKs=ks at J O;have ak:∀(ks:Ay) (k:List Di),k.length=ks.length->(∀(j:Nat) p,ks[j]? =some p->∃s:Sp,k[j]? =some (p.1,s)/\s.ly=d.ly/\s.x=p.2)->(Ec nm k).map Sp.pr=(Fq nm ks).map λy=>(y,d.ly):=by
  intro ks;induction ks with
  |nil=>
   intro k G _;rw[R0 G];rfl
  |cons p ks Z=>
   intro k G H;cases k with
   |nil=>simp at G
   |cons q k=>
    obtain⟨s,I,al,ao⟩:=H 0 p rfl;simp at I;subst I;rw[Ec,Fq];split
    .grind [Sp.pr]
    .exact Z k (by simpa using G) λj ab ad=>by
      obtain⟨ap,f1,f2⟩:=H (j+1) ab (by simpa using ad);grind
 grind
theorem nI{D:List Sp}(G:K.length=D.length)(h:∀(i:Nat) d,D[i]? =some d->∃k,K[i]? =some k/\JJ c d k)(nm:BA):(El nm K []).map Sp.pr=BU nm (D.map Sp.pr):=by
 unfold El BU;show(K.filterMap (Ec nm)++[]).map Sp.pr=_;rw[te];induction D generalizing K with
 |nil=>rw[R0 G];rfl
 |cons d D J=>
  cases K with
  |nil=>simp at G
  |cons k K=>
   obtain⟨al,H,O⟩:=h 0 d rfl;simp at H;subst H;have I:=J (K:=K) (by simpa using G) λi e Z=>by
    obtain⟨ab,f1,f2⟩:=h (i+1) e (by simpa using Z);exact⟨ab,by simpa using f1,f2⟩
   have ad:=kO O nm;rw[CL,CB,CL];have ak:Option.map (λy=>(y,d.pr.snd)) (Ek nm d.pr.fst)=(Ec nm k).map Sp.pr:=ad.symm;rw[ak];cases Ec nm k with
   |none=>exact I
   |some s=>simp only[CB,tx];rw[I]
theorem fH(I:C8 w.cell? d):∃H kc,(d.x.dirKs≠[]->H=d.h.ak)/\
 Calls prog 108 #[.agg #[pO d.b d.p,iN d.ly]] w λe w'=>e=.returned (.slice H d.x.dirKs.length kc)/\Below w.heap.size w w':=by
 have h:=WF I;by_cases G:d.x.kind=2
 .refine⟨d.h.ak,d.h.ck,λ_=>rfl,?_⟩
  rw[NS G]at h;have e:d.x.dirKs=d.x.kids:=NS G;rw[e];exact h
 .refine⟨none,0,λJ=>absurd (NO G) J,?_⟩
  rw[NO G]at h;have e:d.x.dirKs=[]:=NO G;rw[e];exact h
def Ca(E:List Pe):Ho:=E.map Pe.pl
theorem qB(E:List Pe):(Ca E).map (·.1)=E.map (·.n):=by unfold Ca;rw[tC];rfl
theorem Pq{E:List Pe}{e:Pe}(h:E[i]? =some e):(Ca E)[i]? =some (e.n,e.L):=by unfold Ca;rw[R6,h];rfl
theorem Yg(E:List Pe)(i:Nat)(e:Pe):Ca (E.set i e)=(Ca E).set i (e.n,e.L):=by unfold Ca;rw[List.map_set];rfl
theorem mR(E:List Pe)(e:Pe):Ca (E++[e])=Ca E++[(e.n,e.L)]:=by unfold Ca;rw[CT];rfl
theorem Tryz.infoP:(prog.info? 169).map (λi=>(i.zero,i.size,i.bytes))=some (some<|.agg #[.string ⟨#[]⟩,nL],2,40):=by kernel_rfl
def E4:List Pe->Nat
 |[]=>0
 |e::r=>e.L.length+E4 r
theorem nP:∀(A:List Pe) (e:Pe),E4 (A++[e])=E4 A+e.L.length:=by intro A e;induction A generalizing e<;>grind [E4]
theorem SC:∀{E:List Pe},(∀e∈E,e.L≠[])->E.length<=E4 E
 |[],_=>rP _
 |e::E,h=>by
  have H:=SC λf G=>h f<|R4 _ G;have I:=CC.2<|h e<|N4 ..
  simp[E4];omega
theorem Xv:∀{E:List Pe} {e:Pe},e∈E->e.L.length<=E4 E:=by intro E e;induction E generalizing e<;>grind [E4]
theorem Yi:∀{E:List Pe} {i:Nat} {e G:Pe},E[i]? =some e->G.L.length=e.L.length+1->E4 (E.set i G)=E4 E+1
 |[],i,e,G,h,_=>by simp at h
 |a::E,0,e,G,h,k=>by simp at h;subst h;simp[E4,k];omega
 |a::E,i+1,e,G,h,k=>by have:=Yi (E:=E) (i:=i) (by simpa using h) k;simp[E4,this];omega
def kc(K:List<|List Di):Nat:=(K.map List.length).sum
theorem ov(K:List<|List Di)(k:List Di):kc (K++[k])=kc K+k.length:=by simp[kc]
theorem l6{k:List Di}(h:K[j]? =some k):kc (K.take j)+k.length<=kc K:=by
 have e:=dL h;grind [kc]
theorem pw{D:List Sp}(G:K.length=D.length)(h:∀(i:Nat) d,D[i]? =some d->∃k,K[i]? =some k/\JJ c d k):kc K<=tot (D.map Sp.pr):=by
 induction D generalizing K with
 |nil=>rw[R0 G];exact N7 _
 |cons d D I=>
  cases K with
  |nil=>simp at G
  |cons k K=>
   obtain⟨ad,H,J⟩:=h 0 d rfl;simp at H;subst H;have O:=I (K:=K) (by simpa using G) λi e Z=>by
    obtain⟨ab,f1,f2⟩:=h (i+1) e (by simpa using Z);exact⟨ab,by simpa using f1,f2⟩
   have ak:=J.1;have al:=Vy d.x;have ao:=JV d.x.dirKs;have ap:cnt d.pr.1=cnt d.x:=rfl;simp only[kc,CB,List.sum_cons,tot]at O⊢;omega
open Go.Shelf
def Tryz.sortL_ren:Go.Shelf.Ren:=⟨λ|6=>113|14=>150|15=>151|20=>198|21=>199|22=>200|23=>201|24=>202|25=>203|26=>204|27=>205|28=>206|29=>207|46=>240|47=>241|48=>242|49=>243|50=>244|57=>266|n=>n,λ|0=>0|3=>3|4=>4|5=>5|9=>9|22=>165|25=>209|39=>231|45=>284|46=>285|50=>106|53=>291|55=>293|66=>319|70=>323|76=>338|77=>247|24=>169|n=>n,λn=>n⟩
theorem Tryz.sortL:Go.Proofs.SlLaysF0.n6 prog Tryz.sortL_ren:={
 mixed:=by kernel_rfl
 f6:=⟨ "slices.SortFunc[[]idshift/merge.place,idshift/merge.place]",by decide,func113.trans<|RX some<|by kernel_rfl⟩
 f14:=⟨ "slices.pdqsortCmpFunc[idshift/merge.place]",by decide,func150.trans<|RX some<|by kernel_rfl⟩
 f15:=func151.trans<|RX some<|by kernel_rfl
 f20:=⟨ "slices.insertionSortCmpFunc[idshift/merge.place]",by decide,func198.trans<|RX some<|by kernel_rfl⟩
 f21:=⟨ "slices.heapSortCmpFunc[idshift/merge.place]",by decide,func199.trans<|RX some<|by kernel_rfl⟩
 f22:=⟨ "slices.breakPatternsCmpFunc[idshift/merge.place]",by decide,func200.trans<|RX some<|by kernel_rfl⟩
 f23:=⟨ "slices.choosePivotCmpFunc[idshift/merge.place]",by decide,func201.trans<|RX some<|by kernel_rfl⟩
 f24:=⟨ "slices.reverseRangeCmpFunc[idshift/merge.place]",by decide,func202.trans<|RX some<|by kernel_rfl⟩
 f25:=⟨ "slices.partialInsertionSortCmpFunc[idshift/merge.place]",by decide,func203.trans<|RX some<|by kernel_rfl⟩
 f26:=⟨ "slices.partitionEqualCmpFunc[idshift/merge.place]",by decide,func204.trans<|RX some<|by kernel_rfl⟩
 f27:=⟨ "slices.partitionCmpFunc[idshift/merge.place]",by decide,func205.trans<|RX some<|by kernel_rfl⟩
 f28:=func206.trans<|RX some<|by kernel_rfl
 f29:=func207.trans<|RX some<|by kernel_rfl
 f46:=⟨ "slices.siftDownCmpFunc[idshift/merge.place]",by decide,func240.trans<|RX some<|by kernel_rfl⟩
 f47:=func241.trans<|RX some<|by kernel_rfl
 f48:=func242.trans<|RX some<|by kernel_rfl
 f49:=⟨ "slices.medianAdjacentCmpFunc[idshift/merge.place]",by decide,func243.trans<|RX some<|by kernel_rfl⟩
 f50:=⟨ "slices.medianCmpFunc[idshift/merge.place]",by decide,func244.trans<|RX some<|by kernel_rfl⟩
 f57:=⟨ "slices.order2CmpFunc[idshift/merge.place]",by decide,func266.trans<|RX some<|by kernel_rfl⟩
 t0:=underlying0
 a0:=Tryz.isAgg0
 z0:=Tryz.sizeOf0
 v0:=Tryz.zeroValue0
 t3:=underlying3
 a3:=Tryz.isAgg3
 z3:=Tryz.sizeOf3
 v3:=Tryz.zeroValue3
 t4:=underlying4
 a4:=Tryz.isAgg4
 z4:=Tryz.sizeOf4
 v4:=Tryz.zeroValue4
 t5:=underlying5
 a5:=Tryz.isAgg5
 z5:=Tryz.sizeOf5
 v5:=Tryz.zeroValue5
 t9:=underlying9
 a9:=Tryz.isAgg9
 z9:=Tryz.sizeOf9
 v9:=Tryz.zeroValue9
 t22:=underlying165
 a22:=Tryz.isAgg165
 z22:=Tryz.sizeOf165
 v22:=Tryz.zeroValue165
 t25:=underlying209
 a25:=Tryz.isAgg209
 z25:=Tryz.sizeOf209
 v25:=Tryz.zeroValue209
 t39:=underlying231
 a39:=Tryz.isAgg231
 z39:=Tryz.sizeOf231
 v39:=Tryz.zeroValue231
 t45:=underlying284
 a45:=Tryz.isAgg284
 z45:=Tryz.sizeOf284
 v45:=Tryz.zeroValue284
 t46:=underlying285
 a46:=Tryz.isAgg285
 z46:=Tryz.sizeOf285
 v46:=Tryz.zeroValue285
 t50:=underlying106
 a50:=Tryz.isAgg106
 z50:=Tryz.sizeOf106
 v50:=Tryz.zeroValue106
 t53:=underlying291
 a53:=Tryz.isAgg291
 z53:=Tryz.sizeOf291
 v53:=Tryz.zeroValue291
 t55:=underlying293
 a55:=Tryz.isAgg293
 z55:=Tryz.sizeOf293
 v55:=Tryz.zeroValue293
 t66:=underlying319
 a66:=Tryz.isAgg319
 z66:=Tryz.sizeOf319
 v66:=Tryz.zeroValue319
 t70:=underlying323
 a70:=Tryz.isAgg323
 z70:=Tryz.sizeOf323
 v70:=Tryz.zeroValue323
 t76:=underlying338
 a76:=Tryz.isAgg338
 z76:=Tryz.sizeOf338
 v76:=Tryz.zeroValue338
 t77:=underlying247
 a77:=Tryz.isAgg247
 z77:=Tryz.sizeOf247
 v77:=Tryz.zeroValue247}
open Go.Sort
instance:Inhabited Pe:=⟨⟨⟨#[]⟩,none,0,[]⟩⟩
def Jt(e:Pe):List Value:=[.string e.n,.slice e.a e.L.length e.c]
def Nx(x y:Pe):Int:=Ik x.n y.n
theorem Qo(x y:Pe):ltOf Nx x y=Br x.n y.n:=by
 unfold ltOf Nx Ik;grind
theorem qE:SWO (ltOf Nx)where
 irrefl x:=by rw[Qo];exact Lw _
 trans x y z h1 h2:=by rw[Qo]at*;exact IV h1 h2
 ntrans x y z h1 h2:=by
  rw[Qo]at*;cases h:Br x.n z.n with
  |false=>rfl
  |true=>
   rcases Kt x.n y.n with e|e|e
   .rw[h1]at e;cases e
   .rw[<-e,h]at h2;cases h2
   .rw[IV e h]at h2;cases h2
theorem We{G:List Pe}(h:EX w b G):HoldsK Jt 2 w b 0 G.toArray:=by
 intro j H;rw[size_flatK]at H;rw[get_flatK _ _ _ _ H];have I:j / 2<G.length:=by simp at H;omega
 obtain⟨c0,c1⟩:=h.cell (j / 2) G[j / 2]<|NA I;have J:G.toArray[j / 2]! =G[j / 2]:=by simp[I]
 rw[J];refine⟨?_,h.free _⟩;rw[RT];generalize G[j / 2]=x at c0 c1;rcases Nat.mod_two_eq_zero_or_one j with e|e
 .rw[e]
  rw[show j / 2*2=j by omega]at c0;exact c0
 .rw[e]
  rw[show j / 2*2+1=j by omega]at c1;exact c1
theorem mE{G:Nat}{d:Array Pe}{os:Array Obj}(k:Nat)(H:k<w.heap.size)(I:k≠b):(sortWorldK Jt 2 w b G m d os).heap[k]? =w.heap[k]?:=by
 unfold sortWorldK grow putRowK putRow mapBlock;show((w.heap.modify b _)++os)[k]? =_;rw[Array.getElem?_append_left (by rw[Array.size_modify];exact H),Array.getElem?_modify,NO λe=>I e.symm]
theorem qH{G:Nat}{d:Array Pe}{os:Array Obj}:Mv (λk=>k=b) w<|sortWorldK Jt 2 w b G m d os:=by
 refine⟨rfl,rfl,rfl,?_,λk H I=>mE k H I⟩;unfold sortWorldK grow putRowK putRow mapBlock;simp_all
theorem il{H:List Pe}(h:EX w b H)(a8:H.length<=1000):
 Calls prog 113 #[sL b 0 H.length cap,.func (.func 114) #[] #[]] w λe w'=>e=.returned (.tuple #[])/\Mv (λk=>k=b) w w'/\∃G':List Pe,G'.Perm H/\G'.Pairwise (λa b=>Br b.n a.n=false)/\∀(i:Nat) e,G'[i]? =some e->w'.cell? (aD b<|i*2)=some (.string e.n)/\w'.cell? (aD b<|i*2+1)=some (.slice e.a e.L.length e.c):=by
 have ao:=enters_of func114 oK rfl;have ap:CmpLays prog 114 #[] Jt 2 Nx b 0 H.toArray.size w:=λm os ba _ x y=>by
  go_call eK x.n y.n x.a y.a x.L.length x.c y.L.length y.c _ as e w' ⟨rfl,rfl⟩
  exact⟨rfl,0,_,by rw[alloc_eq_grow,alloc_eq_grow,grow_grow];rfl⟩
 have ar:=AnyQ.slices_SortFunc Tryz.sortL 2 Tryz.isAgg169 Tryz.sizeOf169 Jt (λ_=>rfl) (λx v ab=>by simp[Jt]at ab;rcases ab with rfl|rfl<;>rfl) Nx qE 114 #[] b 0 cap H.toArray w ao ap (We h) h.lt (by simp;omega);have aw:=ar;refine aw.mono ?_;rintro e w' ⟨rfl,G,n,os,az,aA,rfl⟩;obtain⟨I,_,ad⟩:=az;have bb:G.size=H.length:=by rw[I];simp
 refine⟨rfl,qH,G.toList,?_,?_,λi e J=>?_⟩
 .have O:G.extract 0 H.toArray.size=G:=by rw[<-I];simp
  have a1:H.toArray.extract 0 H.toArray.size=H.toArray:=by simp
  rw[O,a1]at ad;exact ad
 .rw[tw]
  intro i j J a6 a7;have ak:j<G.size:=by simpa using a6
  have:=aA i j (N7 _) a7 (by rw[<-I];exact ak);rw[Qo]at this;rw[getElem!_pos G j ak,getElem!_pos G i oM]at this;simpa using this
 .have al:HoldsK Jt 2 (sortWorldK Jt 2 w b 0 n G os) b 0 G:=by
   unfold sortWorldK;refine holdsK_grow _ _ _ _ _ _ _ ?_<|holdsK_putRowK _ _ _ _ _ H.toArray _ (holdsK_ahead _ _ _ _ _ _ _<|We h) I;show b<(putRowK Jt 2 (Go.Sort.ahead w n) b 0 G).heap.size;unfold putRowK putRow mapBlock;show b<(w.heap.modify b _).size;rw[Array.size_modify];exact h.lt
  have Z:i<G.size:=by have:=(NE.1 J).1;simpa using this
  have O:G[i]! =e:=by
   rw[getElem!_pos G i Z];have:=(NE.1 J).2;simpa using this
  have c0:=al.cell Z (show 0<2 by omega);have c1:=al.cell Z (show 1<2 by omega);rw[O]at c0 c1;simp only[RT,tl]at c0 c1;exact⟨c0.1,c1.1⟩
theorem iu{A:World}{S:Nat->Bool}(al:∀k,S k=true->k<A.heap.size){a:Option Addr}{D:List Sp}(ao:Eh (Ag A.cell? S) a D)(ap:∀s∈D,C8 (Ag A.cell? S) s)(ab:D.length<=1000):
 Calls prog 109 #[.func (.func 148) #[] #[pO A.heap.size 0]] (A.alloc<|.cells #[.slice a D.length cap] 155) λe B=>∃H G,e=.returned (.slice H (BM D).length G)/\(BM D).length<=G/\G<=9223372036854775807/\Eh (Ag B.cell? S) H (BM D)/\Below A.heap.size A B:=by
 have I:Below A.heap.size A<|A.alloc<|.cells #[.slice a D.length cap] 155:=bN;have ad:=Ai I;have ak:=BW A.cell? S;have c0:Ce (A.alloc<|.cells #[.slice a D.length cap] 155) A.heap.size 0<|.slice a D.length cap:=aC;have ar:=cj A.heap.size _ a cap D _ rfl c0 ab ((ao.on ak).on ad);go_call Rm ar (enters_of func148 oK rfl) (λs aw=>((ap s aw).on ak).on ad) ab as e B ⟨H,G,rfl,h1,h2,O,h4,hB⟩
 refine⟨H,G,rfl,h1,h2,?_,I.trans<|hB.mono I.size⟩;rcases O with e|⟨b,Z,e,O⟩
 .exact .inl e
 .rcases h4 with J|⟨g,aA,J,a1⟩
  .exact .inl J
  .rw[e]at J
   simp only[RV,Cj]at J;refine .inr ⟨b,Z,e,λi d az=>?_⟩;have hb:S b=false:=by
    cases hh:S b with
    |false=>rfl
    |true=>have:=al b hh;have:=I.size;omega
   rw[CV (show S ((aD b<|Z+i*2):Addr).block=false from hb),CV (show S ((aD b<|Z+i*2+1):Addr).block=false from hb)];exact O i d az
theorem dO(a:Option Addr)(cap:Nat)(w:World):
 Calls prog 149 #[.slice a 0 cap,.func (.func 112) #[] #[]] w λe w'=>e=.returned (iN<|-1)/\w=w':=by
 go_enter func149,ntmps149;go_wp2;go_loop [8] (λi=>i=iN 0) (λ_=>0)
 case atStart=>rfl
 case round=>
  subst hrel;go_wp2;go_ret;exact⟨rfl,rfl⟩
theorem jZ(a:Option Addr)(cap:Nat)(w:World):
 Calls prog 111 #[.slice a 0 cap,.func (.func 112) #[] #[]] w λe w'=>e=.returned (.slice a 0 cap)/\w=w':=by
 have G:Hid _:=dO a cap w;go_enter func111,ntmps111;go_wp2_with fail
 go_call G as e w1 ⟨rfl,rfl⟩
 go_wp2;go_ret;exact⟨rfl,rfl⟩
theorem eA(a:Option Addr)(cap:Nat)(fv:Value)(w:World):
 Calls prog 113 #[.slice a 0 cap,fv] w λe w'=>e=.returned (.tuple #[])/\w'=w:=AnyF.slices_SortFunc_none Tryz.sortL a cap fv w
def TW(c:AR)(v:Value)(M:List<|BA×Bc):Prop:=∃(a:Option Addr) (cap:Nat) (G:List Pe),v=.slice a G.length cap/\G.length<=cap/\cap<=9223372036854775807/\
 (G=[]\/∃b,a=some (aD b 0)/\∀(i:Nat) e,G[i]? =some e->c (aD b<|i*2)=some (.string e.n)/\c (aD b<|i*2+1)=some (.slice e.a e.L.length e.c))/\
 (∀e∈G,ES c (.slice e.a e.L.length e.c)<|e.L.map Sp.pr)/\(Ca G).map Kl=M
structure JI (c:AR) (e:Pe):Prop where
 row:Eh c e.a e.L
 rL:∀s∈e.L,C8 c s
 cap:e.L.length<=e.c
 cap2:e.c<=9223372036854775807
 len:e.L.length<=1000
theorem JI.on{G:AR}{e:Pe}(h:JI c e)(hb:AW c G):JI G e:=⟨h.row.on hb,λs H=>(h.rL s H).on hb,h.cap,h.cap2,h.len⟩
theorem JI.spl{e:Pe}(h:JI c e):ES c (.slice e.a e.L.length e.c)<|e.L.map Sp.pr:=⟨e.a,e.c,e.L,rfl,h.cap,h.cap2,h.row,h.rL,rfl⟩
theorem EX.set1{G:List Pe}(h:EX w b G){o:Pe}(I:G[i]? =some o)(e:Pe)(J:e.n=o.n):EX (w.setCell (aD b<|i*2+1)<|.slice e.a e.L.length e.c) b<|G.set i e:=by
 obtain⟨O,Z⟩:=h.cell i o I;have ab:=(NE.1 I).1;refine⟨λj f H=>?_,λj=>by rw[Kn];exact h.free j,by rw[tJ];exact h.lt⟩;rw[gt]at H;split at H
 .grind [N2,NG]
 .rename_i e1
  obtain⟨q1,q2⟩:=h.cell j f H;grind [NG]
theorem je(G:List Pe):Ca (Ey G)=(Ca G).filter λp=> !p.2.isEmpty:=by
 unfold Ca Ey;rw[List.filter_map];rfl
def Ln(p:BA×List Sp):BA×List Sp:=(p.1,BM p.2)
theorem nM{A:Ho}{p:BA×List Sp}(h:A[j]? =some p):((A.take j).map Ln++A.drop j).set j (Ln p)=(A.take<|j+1).map Ln++A.drop (j+1):=by grind [N9,CO]
end Go.Proofs.YtchpdmjlicmdaaaGreatDoor
