/- Part: Fqx Fsx Fux Fvx Fyx. -/
import Derived.Test.YtchpdmjlicmdaaaGreatDoorHoxX
set_option maxRecDepth 100000
set_option maxHeartbeats 16000000
namespace Go.Proofs.YtchpdmjlicmdaaaGreatDoor
open Go.RowKit Go.Shelf Go.Proofs.Tryz
variable {F:Nd->Nat->Nd}{S:Nat->Bool}{A W0 w:World}{g i wb:Nat}{fv vw:Value}{T:List Ft}{t:Ft}{G:List Pe}{e:Pe}{st:Loop}
theorem Vo{c H:AR}{b p:Nat}{x:Nd}{h:Hd}(I:A9 c b p x h)(G:∀j,j<8->H (aD b<|p+j)=c (aD b<|p+j)):A9 H b p x h:=by
 obtain⟨k,m,u,g,o,rL,d,ks⟩:=x;obtain⟨J,O,Z,ab,ad,ak,al,ao⟩:=I;exact⟨(G 0 oM).trans J,(G 1 oM).trans O,(G 2 oM).trans Z,(G 3 oM).trans ab,(G 4 oM).trans ad,(G 5 oM).trans ak,(G 6 oM).trans al,(G 7 oM).trans ao⟩
theorem FJ.tb(_hS:∀_w:World,True){W:World}{G I:Nat}{J:Bc}(h:FJ F S w W G I wb fv vw T J)(ad:∀k,S k=true->k<w.heap.size)(O:t∈T):w.heap.size<t.b/\t.b<W.heap.size/\Dy w.heap.size wb vw S t.b=false/\t.b≠G:=by
 have H:=h.plc t O;obtain⟨cs,ak,Z,al⟩:=H.typ;have ao:=(N3.1 Z).1;have ap:=H.lo;have ar:=H.ne;have aw:t.b≠wb:=λe=>by
  have:=h.wbx;unfold Boxed at this;grind
 have az:t.b≠G:=λe=>by
  have:=h.fbx;grind
 have aA:some t.b≠vw.ownBlock:=λe=>by
  rcases h.row.2 with⟨ab,_⟩|⟨g,cap,a1,ab,_,a6,_⟩;all_goals grind [Value.ownBlock]
 grind [I0]
theorem FJ.next{W:World}{aw bb O:Nat}{H:Value}{N:List Ft}{bd:Bc}(h:FJ F S w W0 aw bb wb fv vw (T++[t]) bd)(be:∀k,S k=true->k<w.heap.size)(r:RR w W0 W (Dy w.heap.size wb vw S)<|t.tk F)
 (bf:Boxed W O 162 H) (c5:W0.heap.size<=O) (bg:W.ownsRow w.heap.size 161 2 H (T++N).length<|EB<|T++N) (c6:H.ownBlock=vw.ownBlock\/∃s,H.ownBlock=some s/\W0.heap.size<=s)
 {g:Nat} (bq:W0.heap.size<=g) (az:∀s∈N,s.b=g/\(∃i,s.p=i*9+1)/\(∃cs,W.heap[g]? =some (.cells cs 92 (0,0)))/\A9 W.cell? s.b s.p zN zH) (bs:Lk<|DL F N)
 {k m u bi:Int} {o:Bool} {rL:List Kv} {d:BA} {ks:Ay} {hd:Hd} (hx:Dx F t.l=.mk k m u bi o rL d ks) (bu:A9 W.cell? t.b t.p (.mk k m u bi o rL d ks) hd) (aA:Bg (Ag W.cell?<|FK (Dy w.heap.size O H S)<|DL F<|T++N) hd.aa rL) (bx:rL.length<=hd.ca/\hd.ca<=9223372036854775807) (bA:ks.length<=hd.ck/\hd.ck<=9223372036854775807)
 (bB:ks=[]\/(hd.ak=some (aD g 0)/\∃cs,W.heap[g]? =some (.cells cs 92 (0,0)))) (bC:∀(i:Nat) nm y,ks[i]? =some (nm,y)->Ce W g (i*9) (.string nm)/\(⟨g,i*9+1,y⟩:Tk)∈DL F N)
 (bF:∀s∈N,Ic s.l/\ES (Ag W.cell?<|FK (Dy w.heap.size O H S)<|DL F<|T++N) (.slice s.a s.l.length s.c) s.l):
 FJ F S w W aw bb O fv H (T++N) bd:=by
 have ad:=λs G=>h.tb (λ_=>trivial) be (t:=s) G;have bG:t∈T++[t]:=Cq.2<|.inr<|CD.2 rfl
 obtain⟨c8,c9,t3,t4⟩:=ad t bG;have da:w.heap.size<W0.heap.size:=by omega
 have bk:∀q,q<W0.heap.size->Dy w.heap.size wb vw S q=false->Dy w.heap.size O H S q=false:=λq ap dd=>by
  grind [I0]
 have bH:(∃cs,W.heap[g]? =some (.cells cs 92 (0,0)))->Dy w.heap.size O H S g=false:=λ⟨cs,a1⟩=>by
  refine I0.2 ⟨by omega,λe=>?_,λe=>?_,?_⟩
  .unfold Boxed at bf
   grind
  .rcases bg.2 with⟨I,_⟩|⟨bY,cap,b0,I,_,bl,_⟩
   all_goals grind [Value.ownBlock]
  all_goals grind
 have b1:∀s∈T,∀j,j<8->W.cell? (aD s.b<|s.p+j)=W0.cell? (aD s.b<|s.p+j):=λs G j de=>by
  obtain⟨b2,a6,a7,b4⟩:=ad s<|Cq.2<|.inl G;by_cases e:s.b=t.b
  .refine r.cel _ e ?_
   have J:=h.apt;unfold DL at J;rw[CT]at J;have ak:=(List.pairwise_append.1 J).2.2 (s.tk F) (tr G) (t.tk F) oS;simp only[Ft.tk]at ak;have bn:(decide (t.p<=s.p+j)&&decide (s.p+j<t.p+8))=false:=by
    grind
   show((s.b==t.b)&&(decide (t.p<=s.p+j)&&decide (s.p+j<t.p+8)))=false;grind
  .exact RE (w:=W0)<|r.blk s.b a6 a7 e
 have ar:DL F (T++[t])=DL F T++[t.tk F]:=by unfold DL;rw[CT];rfl
 have a8:DL F (T++N)=DL F T++DL F N:=by unfold DL;rw[CT]
 have b6:AW (Ag W0.cell?<|FK (Dy w.heap.size wb vw S)<|DL F<|T++[t])<|Ag W.cell?<|FK (Dy w.heap.size O H S)<|DL F<|T++N:=λq v ap=>by
  have G:=Gg ap;obtain⟨b7,dg⟩:=LM.1 G;have ba:=VJ _ _ _ _ _ ap;have b9:=(MT ba).2.2;have ce:=NF _ _ b9;rw[CV]
  .rw[ar]at ba
   exact r.mle q v ba
  .refine LM.2 ⟨bk _ ce b7,λs G e=>?_⟩
   rw[a8]at G;rcases Cq.1 G with G|G;all_goals grind [Ft.tk]
 refine⟨r.low,?_,?_,?_,h.fbl,bf,by omega,bg,?_,?_,?_,?_⟩
 .have bo:=h.res
  refine⟨?_,λj=>(World.frozen?_of_block (w:=W0) r.res).trans<|bo.2 j⟩;obtain⟨cf,I,ch,cl,co,cr,cx,cD⟩:=bo.1;have Z:∀j,W.cell? (aD w.heap.size j)=W0.cell? (aD w.heap.size j):=λj=>RE (w:=W0) r.res;exact⟨(Z _).trans cf,(Z _).trans I,(Z _).trans ch,(Z _).trans cl,(Z _).trans co,(Z _).trans cr,(Z _).trans cx,(Z _).trans cD⟩
 .rw[r.res];exact h.rty
 .have cF:=(N3.1 h.fbx).1
  rw[r.blk aw cF ?_ λe=>t4 e.symm]
  .exact h.fbx
  .refine I0.2 ⟨λe=>?_,λe=>?_,λe=>?_,?_⟩
   .obtain⟨cs,a1⟩:=h.rty
    have:=h.fbx;grind
   .have ak:=h.wbx
    unfold Boxed at ak;have:=h.fbx;grind
   .rcases h.row.2 with⟨I,_⟩|⟨bY,cap,b0,I,_,bl,_⟩
    .rw[I]at e;cases e
    .rw[I]at e
     simp[Value.ownBlock]at e;have:=h.fbx;rw[e,bl]at this;simp at this
   .cases hh2:S aw with
    |false=>rfl
    |true=>have:=be _ hh2;have:=h.fbl;omega
 .intro s G
  rcases Cq.1 G with G|G
  .have ab:=h.plc s<|Cq.2<|.inl G
   obtain⟨b2,a6,a7,b4⟩:=ad s<|Cq.2<|.inl G;refine⟨ab.lo,ab.ne,?_,Vo ab.cell<|b1 s G⟩;by_cases e:s.b=t.b
   .rw[e];exact r.typ
   .rw[r.blk s.b a6 a7 e];exact ab.typ
  .obtain⟨I,_,⟨cs,a1⟩,bn⟩:=az s G
   exact⟨by omega,by omega,⟨cs,_,by rw[I];exact a1,.inr rfl⟩,bn⟩
 .rw[a8]
  refine List.pairwise_append.2 ⟨?_,bs,λa aA b hb=>?_⟩
  .have J:=h.apt
   rw[ar]at J;exact(List.pairwise_append.1 J).1
  .obtain⟨s,G,rfl⟩:=CQ.1 aA
   obtain⟨c3,c4,rfl⟩:=CQ.1 hb;left
   have ak:=(ad s<|Cq.2<|.inl G).2.1;have bp:=(az c3 c4).1;simp only[Ft.tk];omega
 .intro s G
  rcases Cq.1 G with G|G
  .obtain⟨ak,bp⟩:=h.see s<|Cq.2<|.inl G
   exact⟨ak,bp.on b6⟩
  .exact bF s G
 .rw[a8]at aA⊢
  have ab:=h.prt;rw[ar]at ab;refine fN (c:=W0.cell?) (S:=Dy w.heap.size wb vw S) (t:=t.tk F) (n0:=W0.heap.size) (g:=g) (h:=hd) hx ?_ (λq v ap=>NF _ _ ap) ?_ bq ?_ bk r.mle bu (aA.on<|VJ _ _ _) bx bA (bB.imp id λq=>⟨q.1,bH q.2⟩) bC ?_ ab
  .have J:=h.apt
   rw[ar]at J;exact J
  .intro s G
   rw[<-ar]at G;obtain⟨al,ao,rfl⟩:=CQ.1 G;exact⟨(ad al ao).2.1,(ad al ao).2.2.1⟩
  .intro s G
   obtain⟨al,ao,rfl⟩:=CQ.1 G;exact(az al ao).1
  .intro s G
   obtain⟨al,ao,rfl⟩:=CQ.1 G;exact(az al ao).2.1
theorem FJ.start{G:World}{va:Option Addr}{vc n:Nat}{I:Bc}(_hS0:∀k,S k=true->k<w.heap.size)(a8:Below w.heap.size w G)(ba:w.heap.size<G.heap.size)(bb:AC G w.heap.size zN zH)(bd:∃cs,G.heap[w.heap.size]? =some (.cells cs 31 (0,0)))(be:Ic I)(az:I.length=n)
 (bf:ES (Ag G.cell? (λk=>k==w.heap.size||S k)) (.slice va n vc) I):
 FJ F S w ((((G.alloc<|.cells #[fv] 121).alloc<|.cells #[iN 0,iN 0,iN 0,iN 0,.bool false,nL,.string ⟨#[]⟩,nL] 31).alloc<|.cells #[pO (G.heap.size+1) 0,.slice va n vc] 161).alloc<|.cells #[sL (G.heap.size+1+1) 0 1 1] 162)
  G.heap.size (G.heap.size+1) (G.heap.size+1+1+1) fv (sL (G.heap.size+1+1) 0 1 1) [⟨G.heap.size+1,0,va,vc,I⟩] I:=by
 have aA:Below G.heap.size G<|G.alloc<|.cells #[fv] 121:=(NB _ _).alloc (rP _) _;have a1:=tM G<|.cells #[fv] 121;have a6:(G.alloc<|.cells #[fv] 121).heap.size=G.heap.size+1:=ND _ _;generalize G.alloc (.cells #[fv] 121)=H at aA a1 a6;have ak:Below H.heap.size H<|H.alloc<|.cells #[iN 0,iN 0,iN 0,iN 0,.bool false,nL,.string ⟨#[]⟩,nL] 31:=(NB _ _).alloc (rP _) _;have al:=tM H<|.cells #[iN 0,iN 0,iN 0,iN 0,.bool false,nL,.string ⟨#[]⟩,nL] 31;have ao:=AC.zero H;have bg:(H.alloc<|.cells #[iN 0,iN 0,iN 0,iN 0,.bool false,nL,.string ⟨#[]⟩,nL] 31).heap.size=H.heap.size+1:=ND _ _;generalize H.alloc (.cells #[iN 0,iN 0,iN 0,iN 0,.bool false,nL,.string ⟨#[]⟩,nL] 31)=J at ak al bg ao;have b3:Below J.heap.size J<|J.alloc<|.cells #[pO (G.heap.size+1) 0,.slice va n vc] 161:=(NB _ _).alloc (rP _) _;have ap:=tM J<|.cells #[pO (G.heap.size+1) 0,.slice va n vc] 161;have bi:(J.alloc<|.cells #[pO (G.heap.size+1) 0,.slice va n vc] 161).heap.size=J.heap.size+1:=ND _ _;generalize J.alloc (.cells #[pO (G.heap.size+1) 0,.slice va n vc] 161)=O at b3 ap bi;have Z:Below O.heap.size O<|O.alloc<|.cells #[sL (G.heap.size+1+1) 0 1 1] 162:=(NB _ _).alloc (rP _) _;have ar:=tM O<|.cells #[sL (G.heap.size+1+1) 0 1 1] 162;have bk:(O.alloc<|.cells #[sL (G.heap.size+1+1) 0 1 1] 162).heap.size=O.heap.size+1:=ND _ _;generalize O.alloc (.cells #[sL (G.heap.size+1+1) 0 1 1] 162)=a7 at Z ar bk;have bl:H.heap.size=G.heap.size+1:=a6;have bn:J.heap.size=G.heap.size+1+1:=by omega
 have bo:O.heap.size=G.heap.size+1+1+1:=by omega
 rw[bl]at al ao;rw[bn]at ap;rw[bo]at ar;have c2:=(Z.block (G.heap.size+1) oM).trans<|(b3.block (G.heap.size+1) oM).trans al;have c1:=(Z.block G.heap.size oM).trans<|(b3.block G.heap.size oM).trans<|(ak.block G.heap.size oM).trans a1;have bp:=(Z.block (G.heap.size+1+1) oM).trans ap;have z5:=(ao.below b3).below Z;have ad:Below G.heap.size G a7:=aA.trans<|(ak.mono oM).trans<|(b3.mono oM).trans<|Z.mono oM;have bq:AW (Ag G.cell? (λk=>k==w.heap.size||S k))<|Ag a7.cell?<|FK (Dy w.heap.size (G.heap.size+1+1+1) (sL (G.heap.size+1+1) 0 1 1) S)<|DL F [⟨G.heap.size+1,0,va,vc,I⟩]:=Bv λk bs aw=>by
  simp at aw;refine⟨LM.2 ⟨I0.2 ⟨aw.1,by omega,?_,aw.2⟩,?_⟩,ad.block k bs⟩;all_goals grind [Value.ownBlock,Ft.tk]
 refine⟨a8.trans<|ad.mono oM,bb.below ad,?_,c1,by omega,ar,by omega,⟨rfl,.inr ⟨G.heap.size+1+1,1,#[pO (G.heap.size+1) 0,.slice va n vc],rfl,by omega,bp,rP _,by decide,rfl,?_⟩⟩,?_,?_,?_,?_⟩
 .obtain⟨cs,bu⟩:=bd
  exact⟨cs,(ad.block _ ba).trans bu⟩
 .show [_,_]=[_,_]
  rw[az]
 .intro t ab
  rw[CD]at ab;subst ab;exact⟨by show w.heap.size<=G.heap.size+1;omega,by show G.heap.size+1≠w.heap.size;omega,⟨_,_,c2,.inl rfl⟩,z5.1.at⟩
 .simp[DL,Lk]
 .intro t ab
  rw[CD]at ab;subst ab;refine⟨be,?_⟩;show ES _ (.slice va I.length vc) I;rw[az];exact bf.on bq
 .exact .hole<|by simp[DL,Ft.tk]
def Fk(X:Nat->Value):Array Value:=#[X 0,X 1,X 2,X 3,X 4,X 5,X 6,X 7,X 8,X 9,X 10,X 11,X 12,X 13,X 14,X 15,X 16,X 17,X 18,X 19,X 20,X 21,X 22,X 23,X 24,X 25,X 26,X 27,X 28,X 29,X 30,X 31,X 32,X 33,X 34,X 35,X 36,X 37,X 38,X 39,X 40,X 41,X 42,X 43,X 44,X 45,X 46,X 47,X 48,X 49,X 50,X 51,X 52,X 53,X 54,X 55,X 56,X 57,X 58,X 59,X 60,X 61,X 62,X 63,X 64,X 65,X 66,X 67,X 68,X 69,X 70,X 71,X 72,X 73,X 74,X 75,X 76,X 77,X 78,X 79,X 80,X 81,X 82,X 83,X 84,X 85,X 86,X 87,X 88,X 89,X 90,X 91,X 92,X 93,X 94,X 95,X 96,X 97,X 98,X 99,X 100,X 101,X 102,X 103,X 104,X 105]
theorem qi(A:Array Value)(h:A.size=106):A=Fk (λi=>A.getD i undef):=by
 have e:Fk (λi=>A.getD i undef)=((List.range 106).map λi=>A.getD i undef).toArray:=rfl;rw[e];apply Array.ext;all_goals simp_all
theorem Gh{A:Array Value}{G:List Deferred}(h:A.size=106):({tmps:=A,defers:=G}:Act)={tmps:=Fk λi=>A.getD i undef,defers:=G}:=by rw[<-qi A h]
abbrev TS(ks:List Nat):List Deferred:=ks.map λk=>{target:=.collected k,args:=#[]}
structure JO (w W:World) (ks:List Nat):Prop where
 nd:ks.Nodup
 rL:∀k∈ks,w.heap.size<k/\W.heap[k]? =some (.deferred<|some [])
theorem Ui{P:Program}{fn:Func}{tmps:Array Value}{R:Ending->World->Prop}{w:World}:∀(ks:List Nat) (W:World),JO w W ks->(∀G:World,(∀q v,W.cell? q=some v->G.cell? q=some v)->Below w.heap.size W G->LeavesInM Fence.wide 0 P fn tmps R [] .returning G)->Below w.heap.size w W->LeavesInM Fence.wide 0 P fn tmps R (TS ks) .returning W
 |[],W,_,h,hl=>h W (λ_ _ h=>h)<|NB _ _
 |k::ks,W,hm,h,hl=>by
  obtain⟨J,H⟩:=hm.rL k<|N4 ..;obtain⟨O,Z⟩:=List.nodup_cons.1 hm.nd;have hb:Below w.heap.size W<|W.putObj k<|.deferred none:=GC hl.size (K6 J) _;refine⟨by simp,.inl ⟨_,_,rfl,run_takeDeferred H,?_⟩⟩;refine Ui ks _ ⟨Z,λj I=>?_⟩ (λG ab ad=>h G (λq v ak=>ab q v<|Nl H rfl _ q v ak)<|hb.trans ad)<|hl.trans hb;obtain⟨al,ao⟩:=hm.rL j<|R4 _ I;exact⟨al,(World.putObj_heap_other (λe=>O (by rw[<-e];exact I))).trans ao⟩
def bt(g:Nat)(G:List Pe)(q:Nat):Ft:=match G[q]? with
 |some e=>⟨g,q*9+1,e.a,e.c,e.L.map Sp.pr⟩
 |none=>⟨g,q*9+1,none,0,[]⟩
def DH(g:Nat)(G:List Pe)(i:Nat):List Ft:=(((List.range G.length).drop i).reverse).map<|bt g G
theorem nR(g:Nat)(G:List Pe):DH g G G.length=[]:=by unfold DH;simp
theorem kD(h:i<G.length):DH g G i=DH g G (i+1)++[bt g G i]:=by grind [DH,N9]
theorem l7(g:Nat)(G:List Pe)(i:Nat):(DH g G i).length=G.length-i:=by unfold DH;simp
theorem P4(h:G[i]? =some e):bt g G i=⟨g,i*9+1,e.a,e.c,e.L.map Sp.pr⟩:=by unfold bt;rw[h]
theorem Sk(h:t∈DH g G i):∃q e,G[q]? =some e/\t=⟨g,q*9+1,e.a,e.c,e.L.map Sp.pr⟩:=by
 unfold DH at h;obtain⟨q,I,rfl⟩:=CQ.1 h;have H:=List.mem_of_mem_drop<|List.mem_reverse.1 I;rw[List.mem_range]at H;exact⟨q,G[q],NA H,P4<|NA H⟩
theorem mJ{q:Nat}(h:G[q]? =some e):(⟨g,q*9+1,e.a,e.c,e.L.map Sp.pr⟩:Ft)∈DH g G 0:=by
 unfold DH;rw[List.drop_zero,<-P4 h];refine CQ.2 ⟨q,?_,rfl⟩;rw[List.mem_reverse,List.mem_range];exact(NE.1 h).1
theorem np(F:Nd->Nat->Nd)(g:Nat)(G:List Pe)(i:Nat):Lk<|DL F<|DH g G i:=by
 unfold Lk DL DH;rw[tC,List.pairwise_map,List.pairwise_reverse];have H:((List.range G.length).drop i).Pairwise λa b=>a<b:=List.Pairwise.sublist (List.drop_sublist _ _) List.pairwise_lt_range;refine H.imp ?_;grind [Ft.tk,bt]
theorem pB{_g:Nat}:∀{l:Bc} {N:List BA},(Ca G).map Kl=N.map (λnm=>(nm,Ci l nm))->(G.map λe=>tot<|e.L.map Sp.pr).sum=(N.map λnm=>tot<|Ci l nm).sum:=by
 intro l N h;have H:=RX (List.map λp:BA×Bc=>tot p.2) h;rw[tC,tC]at H;have I:((Ca G).map<|(λp:BA×Bc=>tot p.2)∘Kl)=G.map λe=>tot<|e.L.map Sp.pr:=by
  unfold Ca;rw[tC];rfl
 rw[I]at H;rw[H];rfl
structure BJ (w wC A:World) (wb tb:Nat) (T:List Ft) (st:Loop):Prop where
 low:Below w.heap.size w A
 siz:wC.heap.size+2<=A.heap.size
 blk:∀k,k<wC.heap.size->k≠wb->k≠tb->A.heap[k]? =wC.heap[k]?
 wbx:∃vw,Boxed A wb 162 vw/\A.ownsRow w.heap.size 161 2 vw T.length (EB T)/\(vw.ownBlock=some tb\/∃s,vw.ownBlock=some s/\wC.heap.size+2<=s)
 dk:A.heap[wC.heap.size]? =some (.deferred<|some [])
 lk:A.heap[wC.heap.size+1]? =some (.loop st)
theorem BJ.keep{G B:World}{H:Nat}(h:BJ w G A wb H T st)(hb:Below A.heap.size A B):BJ w G B wb H T st:=by
 obtain⟨vw,I,J,O⟩:=h.wbx;have Z:=h.siz;exact⟨h.low.trans<|hb.mono h.low.size,Rz Z hb.size,λk ab a b=>(hb.block k oM).trans<|h.blk k ab a b,⟨vw,Ew I hb,Fy J hb,O⟩,(hb.block _ oM).trans h.dk,(hb.block _ oM).trans h.lk⟩
theorem BJ.put{G:World}{H:Nat}(h:BJ w G A wb H T st)(ad:w.heap.size<=G.heap.size)(I:Loop):BJ w G (A.putObj (G.heap.size+1)<|.loop I) wb H T I:=by
 obtain⟨vw,J,O,Z⟩:=h.wbx;refine⟨h.low.trans<|GC h.low.size oM _,by rw[World.putObj_size];exact h.siz,λk ab a b=>(World.putObj_heap_other oM).trans<|h.blk k ab a b,⟨vw,Hy J h.lk _,ownsRow_putObj O _ h.lk rfl,Z⟩,(World.putObj_heap_other oM).trans h.dk,World.putObj_heap_same (by have:=h.siz;omega)⟩
theorem BJ.push{J B:World}{O:Nat}{ar:Obj}{I:Value}(h:BJ w J A wb O T st)(a7:w.heap.size<=wb)(Z:Boxed A wb 162 vw)(ad:A.ownsRow w.heap.size 161 2 vw T.length<|EB T)(bi:vw.ownBlock=some O\/∃s,vw.ownBlock=some s/\J.heap.size+2<=s)
 (aw:B.ownsRow w.heap.size 161 2 I (T.length+1)<|EB T++EB [t]) (ab:(A.alloc ar).grownBy B vw.ownBlock) (a8:I.ownBlock=vw.ownBlock\/I.ownBlock=some (A.alloc ar).heap.size):BJ w J (B.setCell (aD wb 0) I) wb O (T++[t]) st:=by
 have bk:=h.siz;rw[ND]at a8;have bl:A.heap.size+1<=B.heap.size:=by have:=ab.size;rwa [ND]at this
 have ba:some wb≠vw.ownBlock:=Z.not_row oD ad;have az:Boxed B wb 162 vw:=by
  have G:=Z.lt;exact(ab.block wb (by rw[ND];omega) ba).trans ((ti _ _ _ G).trans Z)
 have bb:some wb≠I.ownBlock:=az.not_row oD aw;have ak:∀k,k<A.heap.size->some k≠vw.ownBlock->k≠wb->(B.setCell (aD wb 0) I).heap[k]? =A.heap[k]?:=λk H G bd=>by
  rw[Cv _ _ _ _ (by exact bd),ab.block k (by rw[ND];omega) G,ti _ _ _ H]
 have be:∀q,vw.ownBlock=some q->w.heap.size<=q:=λq al=>(ad.lt q al).1;have bf:∀k,k<J.heap.size+2->k≠O->some k≠vw.ownBlock:=λk H G e=>by
  grind
 have aA:∀(k:Nat) (o:Obj),A.heap[k]? =some o->o.isCells=false->some k≠vw.ownBlock:=λk o H ao e=>by
  rcases ad.2 with⟨ap,_⟩|⟨g,cap,bn,ap,_,a1,_⟩
  .rw[ap]at e;cases e
  .rw[ap]at e
   simp[Value.ownBlock]at e;rw[<-e,H]at a1;cases a1;simp[Obj.isCells]at ao
 have a6:∀(k:Nat) (o:Obj),A.heap[k]? =some o->o.isCells=false->k≠wb:=λk o H ao e=>by
  have G:=Z;unfold Boxed at G;rw[<-e,H]at G;cases G;simp[Obj.isCells]at ao
 refine⟨?_,by rw[tJ];omega,λk H a b=>?_,⟨I,az.set _,?_,?_⟩,?_,?_⟩
 .refine h.low.trans ?_
  have G:Below w.heap.size A B:=((NB _ A).alloc h.low.size _).grown ab (by rw[ND];have:=h.low.size;omega) λq al=>be q al;exact G.setCell (p:=(aD wb 0)) a7 _
 .exact(ak k oM (bf k oM b) a).trans (h.blk k H a b)
 .rw[N6,Pp]
  exact GD aw λg bg=>Cv _ _ _ _ (λe=>bb (by rw[bg];exact RX some<|Eq.symm e))
 .grind
 .exact(ak _ oM (aA _ _ h.dk rfl)<|a6 _ _ h.dk rfl).trans h.dk
 .exact(ak _ oM (aA _ _ h.lk rfl)<|a6 _ _ h.lk rfl).trans h.lk
theorem Tryz.infoTk:(prog.info? 161).map (λi=>(i.zero,i.size,i.bytes))=some (some<|.agg #[.pointer none,nL],2,32):=by kernel_rfl
structure TR (base:Nat) (vw:Value) (m:Nat) (fl:List Value) (tv:List Value) (V:World) (v':Value) (W:World):Prop where
 own:W.ownsRow base 161 2 v' (m+1)<|fl++tv
 gro:V.grownBy W vw.ownBlock
 blk:v'.ownBlock=vw.ownBlock\/v'.ownBlock=some V.heap.size
structure FV (base wb g n c i pb el ec m:Nat) (ea:Option Addr) (vw:Value) (fl:List Value) (V:World) (c0 c1 c2 c3 c4 c5 c6 c7 c8 c9 c10 c11 c12:Bool) (X:Nat->Value) (W:World):Prop where
 f0:c0=true->X 92=vw
 f1:c1=true->X 93=sL g 0 n c
 f2:c2=true->X 94=iN 0
 f3:c3=true->X 95=iN i
 f4:c4=true->X 96=iN i
 f5:c5=true->X 97=pO g (i*9)
 f6:c6=true->X 98=pO g (i*9+1)
 f7:c7=true->X 99=pO pb 1
 f8:c8=true->X 100=.slice ea el ec
 f9:c9=true->X 101=.agg #[pO g<|i*9+1,.slice ea el ec]
 f10:c10=true->X 102=sL V.heap.size 0 1 1
 q4:c4=true->c2=true/\c3=true
 q5:c5=true->c1=true/\c4=true
 q6:c6=true->c5=true
 q8:c8=true->c7=true
 q9:c9=true->c6=true/\c8=true
 q10:c10=true->c9=true
 q11:c11=true->c0=true/\c10=true
 q12:c12=true->c11=true
 p0:c10=false->W=V
 p1:c10=true->c11=false->W=V.alloc (.cells #[pO g<|i*9+1,.slice ea el ec] 161)
 p2:c11=true->c12=false->TR base vw m fl [pO g<|i*9+1,.slice ea el ec] (V.alloc<|.cells #[pO g<|i*9+1,.slice ea el ec] 161) (X 103) W
 p3:c12=true->∃v' W2,TR base vw m fl [pO g<|i*9+1,.slice ea el ec] (V.alloc<|.cells #[pO g<|i*9+1,.slice ea el ec] 161) v' W2/\W=W2.setCell (aD wb 0) v'
def rG(base wb g n c i pb el ec m:Nat)(ea:Option Addr)(vw:Value)(fl:List Value)(V:World)(cb ib:Nat)(al:Array Bool)(a:Act)(W:World):Prop:=∃(X:Nat->Value) (c0 c1 c2 G H I J c7 O Z ab ad ak:Bool),a={tmps:=Fk X,defers:=[]}/\al=#[c0,c1,c2,G,H,I,J,c7,O,Z,ab,ad,ak]/\X 9=pO wb 0/\X 12=pO cb 0/\X 15=pO ib 0/\X 16=iN i/\X 17=pO pb 0/\FV base wb g n c i pb el ec m ea vw fl V c0 c1 c2 G H I J c7 O Z ab ad ak X W
theorem re{base n c pb el ec m:Nat}{ea:Option Addr}{fl:List Value}{V:World}{cb ib l:Nat}{Q:Exit->Act->World->Prop}{a0:Act}{X:Nat->Value}(bf:W0.drew=V)(bg:a0={tmps:=Fk X,defers:=[]})(G:X 9=pO wb 0)(H:X 12=pO cb 0)(I:X 15=pO ib 0)(J:X 16=iN i)(O:X 17=pO pb 0)
 (bi:Boxed V wb 162 vw) (bk:V.ownsRow base 161 2 vw m fl) (cF:m<=2000) (c3:base<=V.heap.size) (c4:Ce V cb 0<|sL g 0 n c) (c5:Ce V ib 0<|iN 0) (c6:Ce V pb 1<|.slice ea el ec) (c8:i<n) (c9:n<=1000)
 (bl:∀a ad W2,TR base vw m fl [pO g<|i*9+1,.slice ea el ec] (V.alloc<|.cells #[pO g<|i*9+1,.slice ea el ec] 161) ad W2->Q .normal a (W2.setCell (aD wb 0) ad)):
 (Code.region 23 #[{dst:=some 92,op:=Op.load 162<|Operand.tmp 9,type:=162,pos:= "merge.go:82",after:=#[],guard:=none},{dst:=some 93,op:=Op.load 29<|Operand.tmp 12,type:=29,pos:= "merge.go:82",after:=#[],guard:=none},{dst:=some 94,op:=Op.load 3<|Operand.tmp 15,type:=3,pos:= "merge.go:82",after:=#[],guard:=none},{dst:=some 95,op:=Op.move<|Operand.tmp 16,type:=3,pos:= "merge.go:82",after:=#[],guard:=none},{dst:=some 96,op:=Op.binOp BinOp.add 3 (Operand.tmp 94) (Operand.tmp 95) 3,type:=3,pos:= "merge.go:82",after:=#[{on:=2,ground:=Ground.data},{on:=3,ground:=Ground.data}],guard:=none},{dst:=some 97,op:=Op.indexAddr 29 (Operand.tmp 93)<|Operand.tmp 96,type:=0,pos:= "merge.go:82",after:=#[{on:=1,ground:=Ground.data},{on:=4,ground:=Ground.data}],guard:=none},{dst:=some 98,op:=Op.fieldAddr 92 (Operand.tmp 97) 1,type:=0,pos:= "merge.go:82",after:=#[{on:=5,ground:=Ground.data}],guard:=none},{dst:=some 99,op:=Op.fieldAddr 169 (Operand.tmp 17) 1,type:=0,pos:= "merge.go:82",after:=#[],guard:=none},{dst:=some 100,op:=Op.load 155<|Operand.tmp 99,type:=155,pos:= "merge.go:82",after:=#[{on:=7,ground:=Ground.data}],guard:=none},{dst:=some 101,op:=Op.build 161 #[(0,Operand.tmp 98),(1,Operand.tmp 100)],type:=161,pos:= "merge.go:82",after:=#[{on:=6,ground:=Ground.data},{on:=8,ground:=Ground.data}],guard:=none},{dst:=some 102,op:=Op.buildSlice 162 1 #[(0,Operand.tmp 101)],type:=162,pos:= "merge.go:82",after:=#[{on:=9,ground:=Ground.data}],guard:=none},{dst:=some 103,op:=Op.call {callee:=Callee.builtin Builtin.append,args:=#[Operand.tmp 92,Operand.tmp 102],argTypes:=#[162,162]},type:=162,pos:= "merge.go:82",after:=#[{on:=0,ground:=Ground.data},{on:=10,ground:=Ground.data}],guard:=none},{dst:=none,op:=Op.store 162 (Operand.tmp 9)<|Operand.tmp 103,type:=0,pos:= "merge.go:82",after:=#[{on:=11,ground:=Ground.data},{on:=11,ground:=Ground.chain},{on:=0,ground:=Ground.phase},{on:=1,ground:=Ground.phase},{on:=2,ground:=Ground.phase},{on:=3,ground:=Ground.phase},{on:=4,ground:=Ground.phase},{on:=5,ground:=Ground.phase},{on:=6,ground:=Ground.phase},{on:=7,ground:=Ground.phase},{on:=8,ground:=Ground.phase},{on:=9,ground:=Ground.phase},{on:=10,ground:=Ground.phase},{on:=11,ground:=Ground.phase}],guard:=none}] true).wpIn (Fence.wide.inRound l) 0 prog Q a0 W0:=by
 obtain⟨bn,a8,bo,ba,bp⟩:=EL Tryz.infoTk;have bq:Hid _:=a8;have bs:Hid _:=bo;have bu:Hid _:=ba;have bx:Hid _:=bp;have bA:Hid _:=bl;have ak:Hid _:=bi;have bb:Hid _:=bk;refine wpIn_region_any (by first|assumption|rfl|kernel_rfl) ?_;refine Ox (rG base wb g n c i pb el ec m ea vw fl V cb ib) ?step ?fin _ _ _ _ ?le ?init
 case le=>decide
 case init=>
  refine⟨X,false,false,false,false,false,false,false,false,false,false,false,false,false,bg,rfl,G,H,I,J,O,?_⟩;constructor<;>intro e<;>first|exact bf|cases e
 case fin=>
  rintro bB a W ⟨X,c0,c1,c2,ao,ap,ar,aw,c7,az,aA,ab,a1,bC,rfl,rfl,G,H,I,J,O,h⟩ bF;obtain⟨ad,W2,bG,rfl⟩:=h.p3<|RS bF oK rfl 12;exact bA _ _ _ bG
 case step=>
  rintro bB a W j ⟨X,c0,c1,c2,ao,ap,ar,aw,c7,az,aA,ab,a1,bC,rfl,rfl,G,H,I,J,O,h⟩ a6;obtain⟨bd,o,al,hd⟩:=mem_ready.1 a6;have da:j<13:=(N3.1 al).1;obtain rfl|rfl|rfl|rfl|rfl|rfl|rfl|rfl|rfl|rfl|rfl|rfl|rfl:j=0\/j=1\/j=2\/j=3\/j=4\/j=5\/j=6\/j=7\/j=8\/j=9\/j=10\/j=11\/j=12:=by omega
  all_goals
   have Z:=al;simp at al;subst al
   simp[Region.binds]at hd bd;subst bd
  .have bH:W.cell? ⟨wb,0,none⟩=some vw:=by
    cases e10:ab with
    |false=>rw[h.p0 e10];exact Boxed.cell ak
    |true=>
     rw[h.p1 e10 (by cases e:a1 with|false=>rfl|true=>cases (h.q11 e).1)];exact(Boxed.alloc ak _).cell
   refine Dt Z rfl (by intro c;simp) (λr args w'=>?_) ?_<;>(simp only[Fk,G,H,I,J,O];go_simp)
   exact⟨_,_,_,_,_,_,_,_,_,_,_,_,_,_,Gh rfl,rfl,rfl,rfl,rfl,rfl,rfl,{h with f0:=λ_=>rfl,q11:=λe=>⟨rfl,(h.q11 e).2⟩}⟩
  .obtain rfl:=h.p0 (by cases e:ab with|false=>rfl|true=>cases (h.q5<|h.q6 (h.q9<|h.q10 e).1).1)
   refine Dt Z rfl (by intro c;simp) (λr args w'=>?_) ?_<;>(simp only[Fk,G,H,I,J,O];go_simp)
   exact⟨_,_,_,_,_,_,_,_,_,_,_,_,_,_,Gh rfl,rfl,rfl,rfl,rfl,rfl,rfl,{h with f1:=λ_=>rfl,q5:=λe=>⟨rfl,(h.q5 e).2⟩}⟩
  .obtain rfl:=h.p0 (by cases e:ab with|false=>rfl|true=>cases (h.q4 (h.q5<|h.q6 (h.q9<|h.q10 e).1).2).1)
   refine Dt Z rfl (by intro c;simp) (λr args w'=>?_) ?_<;>(simp only[Fk,G,H,I,J,O];go_simp)
   exact⟨_,_,_,_,_,_,_,_,_,_,_,_,_,_,Gh rfl,rfl,rfl,rfl,rfl,rfl,rfl,{h with f2:=λ_=>rfl,q4:=λe=>⟨rfl,(h.q4 e).2⟩}⟩
  .refine Dt Z rfl (by intro c;simp) (λr args w'=>?_) ?_<;>(simp only[Fk,G,H,I,J,O];go_simp)
   exact⟨_,_,_,_,_,_,_,_,_,_,_,_,_,_,Gh rfl,rfl,rfl,rfl,rfl,rfl,rfl,{h with f3:=λ_=>rfl,q4:=λe=>⟨(h.q4 e).1,rfl⟩}⟩
  .obtain⟨rfl,rfl⟩:c2=true/\ao=true:=by simp[hd]
   have bY:=h.f2 rfl;have b0:=h.f3 rfl;have dd:IntKind.i64.wrap ((0:Int)+(i:Int))=(i:Int):=(DQ oM oM).trans oM;have de:(0:Int)+(i:Int)=(i:Int):=by omega
   have dg:IntKind.i64.wrap (i:Int)=(i:Int):=DQ oM oM;refine Dt Z rfl (by intro c;simp) (λr args w'=>?_) ?_<;>(simp only[Fk,G,H,I,J,O,bY,b0];go_simp)
   exact⟨_,_,_,_,_,_,_,_,_,_,_,_,_,_,Gh rfl,rfl,rfl,rfl,rfl,rfl,rfl,{h with f2:=λ_=>rfl,f3:=λ_=>rfl,f4:=λ_=>rfl,q4:=λ_=>⟨rfl,rfl⟩,q5:=λe=>⟨(h.q5 e).1,rfl⟩}⟩
  .obtain⟨rfl,rfl⟩:c1=true/\ap=true:=by simp[hd]
   have b1:=h.f1 rfl;have b2:=h.f4 rfl;have dj:(i:Int)<(n:Int):=by omega
   have a8:(0:Int)<=(i:Int):=by omega
   have ba:(i:Int).toNat=i:=by omega
   refine Dt Z rfl (by intro c;simp) (λr args w'=>?_) ?_<;>(simp only[Fk,G,H,I,J,O,b1,b2];go_simp)
   exact⟨_,_,_,_,_,_,_,_,_,_,_,_,_,_,Gh rfl,rfl,rfl,rfl,rfl,rfl,rfl,{h with f1:=λ_=>rfl,f4:=λ_=>rfl,f5:=λ_=>rfl,q5:=λ_=>⟨rfl,rfl⟩,q6:=λ_=>rfl}⟩
  .obtain rfl:ar=true:=by simp[hd]
   have b4:=h.f5 rfl;refine Dt Z rfl (by intro c;simp) (λr args w'=>?_) ?_<;>(simp only[Fk,G,H,I,J,O,b4];go_simp)
   exact⟨_,_,_,_,_,_,_,_,_,_,_,_,_,_,Gh rfl,rfl,rfl,rfl,rfl,rfl,rfl,{h with f5:=λ_=>rfl,f6:=λ_=>rfl,q6:=λ_=>rfl,q9:=λe=>⟨rfl,(h.q9 e).2⟩}⟩
  .refine Dt Z rfl (by intro c;simp) (λr args w'=>?_) ?_<;>(simp only[Fk,G,H,I,J,O];go_simp)
   exact⟨_,_,_,_,_,_,_,_,_,_,_,_,_,_,Gh rfl,rfl,rfl,rfl,rfl,rfl,rfl,{h with f7:=λ_=>rfl,q8:=λ_=>rfl}⟩
  .obtain rfl:c7=true:=by simp[hd]
   obtain rfl:=h.p0 (by cases e:ab with|false=>rfl|true=>cases (h.q9<|h.q10 e).2);have b6:=h.f7 rfl;refine Dt Z rfl (by intro c;simp) (λr args w'=>?_) ?_<;>(simp only[Fk,G,H,I,J,O,b6];go_simp)
   exact⟨_,_,_,_,_,_,_,_,_,_,_,_,_,_,Gh rfl,rfl,rfl,rfl,rfl,rfl,rfl,{h with f7:=λ_=>rfl,f8:=λ_=>rfl,q8:=λ_=>rfl,q9:=λe=>⟨(h.q9 e).1,rfl⟩}⟩
  .obtain⟨rfl,rfl⟩:aw=true/\az=true:=by simp[hd]
   have b7:=h.f6 rfl;have b9:=h.f8 rfl;refine Dt Z rfl (by intro c;simp) (λr args w'=>?_) ?_<;>(simp only[Fk,G,H,I,J,O,b7,b9];go_simp)
   exact⟨_,_,_,_,_,_,_,_,_,_,_,_,_,_,Gh rfl,rfl,rfl,rfl,rfl,rfl,rfl,{h with f6:=λ_=>rfl,f8:=λ_=>rfl,f9:=λ_=>rfl,q9:=λ_=>⟨rfl,rfl⟩,q10:=λ_=>rfl}⟩
  .obtain rfl:aA=true:=by simp[hd]
   have ce:=h.f9 rfl;obtain rfl:=h.p0 rfl;refine Dt Z rfl (by intro c;simp) (λr args w'=>?_) ?_<;>(simp only[Fk,G,H,I,J,O,ce];go_simp)
   exact⟨_,_,_,_,_,_,_,_,_,_,_,_,_,_,Gh rfl,rfl,rfl,rfl,rfl,rfl,rfl,{h with f9:=λ_=>rfl,f10:=λ_=>rfl,q10:=λ_=>rfl,q11:=λe=>⟨(h.q11 e).1,rfl⟩,p0:=(λe=>by cases e),p1:=λ_ _=>rfl,p2:=(λe=>by cases (h.q11 e).2),p3:=(λe=>by cases (h.q11<|h.q12 e).2)}⟩
  .obtain⟨rfl,rfl⟩:c0=true/\ab=true:=by simp[hd]
   have x0:=h.f0 rfl;have cf:=h.f10 rfl;have ch:=h.p1 rfl rfl;subst ch;refine QI _ Z rfl (.tmp 92) (.tmp 102) 162 rfl base 161 bn _ 2 32 underlying162 bq bs bu bx rfl oD vw m fl x0 (tL bb _) (some ⟨V.heap.size,0,none⟩) 1 1 [.pointer<|some ⟨g,i*9+1,none⟩,.slice ea el ec] cf rfl (.inr ⟨_,rfl,λj u a6=>?_⟩) (by simp[Value.oneCell']) (by unfold maxLen;omega) oM (by rw[ND];omega) ?_
   .rw[Ef,RT]
    refine(rO _ _ _ _ rfl).trans ?_;simpa using a6
   intro ad w' cl co cr;simp only[Fk,G,H,I,J,O];exact⟨_,_,_,_,_,_,_,_,_,_,_,_,_,_,Gh rfl,rfl,rfl,rfl,rfl,rfl,rfl,{h with q11:=λ_=>⟨rfl,rfl⟩,q12:=λ_=>rfl,p0:=(λe=>by cases e),p1:=(λ_ e=>by cases e),p2:=λ_ _=>⟨cl,co,cr⟩,p3:=(λe=>by cases h.q12 e)}⟩
  .obtain⟨rfl,rfl,rfl,rfl,rfl,rfl,rfl,rfl,rfl,rfl,rfl,rfl⟩:c0=true/\c1=true/\c2=true/\ao=true/\ap=true/\ar=true/\aw=true/\c7=true/\az=true/\aA=true/\ab=true/\a1=true:=by simp[hd]
   have a7:=h.p2 rfl rfl;obtain⟨dk,cc,be⟩:=ownsRow_succ a7.own;have hb:Boxed W wb 162 vw:=(Boxed.alloc ak _).kept a7.gro<|Boxed.not_row ak oD bb;have bH:=hb.cell;have dm:=hb.frozen;have cx:Hid _:=a7;have cD:Hid _:=be;refine Dt Z rfl (by intro c;simp) (λr args w'=>?_) ?_<;>(simp only[Fk,G,H,I,J,O,be];go_simp)
   exact⟨_,_,_,_,_,_,_,_,_,_,_,_,_,_,Gh rfl,rfl,rfl,rfl,rfl,rfl,rfl,{h with q12:=λ_=>rfl,p0:=(λe=>by cases e),p1:=(λ_ e=>by cases e),p2:=(λ_ e=>by cases e),p3:=(λ_=>⟨_,W,cx,by rw[cD.out]⟩)}⟩
def Ha(G:List Pe):Ch:=G.map λe=>(e.n,zN,zH)
theorem oV(G:List Pe):(Ha G).length=G.length:=by unfold Ha;rw[CE]
theorem qc(h:G[i]? =some e):(Ha G)[i]? =some (e.n,zN,zH):=by grind [Ha]
theorem mn{M:List (BA×Bc)}(h:(Ca G).map Kl=M)(H:G[i]? =some e):M[i]? =some (e.n,e.L.map Sp.pr):=by
 rw[<-h,R6,Pq H];rfl
theorem lF{H:List Pe}{M:List (BA×Bc)}(h:(Ca H).map Kl=M){p:BA×Bc}(G:M[i]? =some p):∃e,H[i]? =some e/\p=(e.n,e.L.map Sp.pr):=by
 rw[<-h,R6]at G;unfold Ca at G;rw[R6,Option.map_map]at G;obtain⟨e,I,rfl⟩:=R2.1 G;exact⟨e,I,rfl⟩
theorem FJ.done{ab wr az:World}{b0 b1 I ar wc ad aw ca:Nat}{H:Value}{ak:List Ft}{b2:Bc}{J:List Pe}{al aa:Option Addr}{k m u bd:Int}{o:Bool}{rL:List Kv}{d:BA}{x0:Nd×Nat}{dg:Bc}
 (h:FJ F S w W0 b0 b1 wb fv (sL I 0 ar wc) (ak++[t]) b2) (bn:∀k,S k=true->k<w.heap.size)
 (b4:RR w W0 ab (Dy w.heap.size wb (sL I 0 ar wc) S)<|t.tk F)
 (dj:A9 ab.cell? t.b t.p (.mk k m u bd o rL d []) ⟨aa,ca,none,0⟩)
 (b6:Bg (Ag ab.cell?<|FK (Dy w.heap.size wb (sL I 0 ar wc) S)<|DL F<|ak++[t]) aa rL)
 (b7:rL.length<=ca/\ca<=9223372036854775807) (dk:t.l=x0::dg) (dm:F (Gk x0.1) x0.2=.mk k m u bd o rL d [])
 (dn:∀e∈J,ES (Ag ab.cell?<|FK (Dy w.heap.size wb (sL I 0 ar wc) S)<|DL F<|ak++[t]) (.slice e.a e.L.length e.c)<|e.L.map Sp.pr)
 (bo:(Ca J).map Kl=(C7 t.l).map λnm=>(nm,Ci t.l nm))
 (be:Below ab.heap.size ab wr) (bp:wr.ownsRow ab.heap.size 92 9 (.slice al ad aw) ad<|Bd<|Ha J) (b9:J.length=ad)
 (bf:Below (wr.setCell (aD t.b<|t.p+7)<|.slice al ad aw).heap.size (wr.setCell (aD t.b<|t.p+7)<|.slice al ad aw) az)
 (ce:J=[]\/al=some (aD g 0)) (a1:BJ w az A wb I (ak++DH g J 0) st) (_hbx:Boxed A wb 162 H) (bq:A.ownsRow w.heap.size 161 2 H (ak++DH g J 0).length<|EB<|ak++DH g J 0)
 (cf:H.ownBlock=some I\/∃s,H.ownBlock=some s/\az.heap.size+2<=s):
 FJ F S w (A.alloc<|.cells #[H] 162) b0 b1 A.heap.size fv H (ak++DH g J 0) b2:=by
 have bs:t∈ak++[t]:=Cq.2<|.inr<|CD.2 rfl;obtain⟨dp,a6,t3,t4⟩:=h.tb (λ_=>trivial) bn bs;have bg:w.heap.size<W0.heap.size:=by omega
 have ej:wb<W0.heap.size:=h.wbx.lt;have ek:I<W0.heap.size:=(h.row.lt I rfl).2;obtain⟨em,bu,dr,en⟩:=I0.1 t3;have bx:t.b≠I:=λe=>dr (by rw[e];rfl);have ds:w.heap.size≠wb:=λe=>by
  obtain⟨cs,aA⟩:=h.rty;have O:=h.wbx;unfold Boxed at O;grind
 have du:w.heap.size≠I:=λe=>by
  obtain⟨cs,aA⟩:=h.rty;rcases h.row.2 with⟨ao,_⟩|⟨ch,cap,cl,ao,_,bA,_⟩;all_goals grind
 have z5:W0.heap.size<=ab.heap.size:=b4.siz;have eo:ab.heap.size<=wr.heap.size:=be.size;have ep:wr.heap.size<=az.heap.size:=by have:=bf.size;rwa [tJ]at this
 have eq:az.heap.size+2<=A.heap.size:=a1.siz;have rs:RR w W0 (wr.setCell ⟨t.b,t.p+7,none⟩<|.slice al ad aw) (Dy w.heap.size wb (.slice (some ⟨I,0,none⟩) ar wc) S)<|t.tk F:=(b4.below ⟨a6,t3⟩ bg be).own (t:=t.tk F) dp 7 oM _;have bi:=rs.below ⟨a6,t3⟩ bg bf;have dw:RR w W0 A (Dy w.heap.size wb (.slice (some ⟨I,0,none⟩) ar wc) S)<|t.tk F:=by
  have bk:∀q,q<W0.heap.size->q≠wb->q≠I->A.heap[q]? =az.heap[q]?:=λq G O bB=>a1.blk q oM O bB;refine⟨a1.low,by omega,(bk _ bg ds du).trans bi.res,λq G aA dx=>?_,λq G aA=>?_,?_⟩
  .obtain⟨_,bC,bF,_⟩:=I0.1 aA
   exact(bk q G bC (λe=>bF (by rw[e];rfl))).trans (bi.blk q G aA dx)
  .refine Eq.trans ?_<|bi.cel q G aA
   exact RE (w:=az)<|bk q.block (by rw[G];exact a6) (by rw[G];exact bu) (by rw[G];exact bx)
  .rw[show(t.tk F).b=t.b from rfl,bk t.b a6 bu bx]
   exact bi.typ
 have bG:Below A.heap.size A<|A.alloc<|.cells #[H] 162:=(NB _ _).alloc (rP _) _;have co:=dw.below ⟨a6,t3⟩ bg bG
 have cr:∀q,q<wr.heap.size->q≠t.b->q≠wb->q≠I->(A.alloc<|.cells #[H] 162).heap[q]? =wr.heap[q]?:=λq G O bB dy=>
  (bG.block q oM).trans ((a1.blk q oM bB dy).trans<|(bf.block q (by rw[tJ];exact G)).trans<|Cv _ _ _ _ O)
 have cx:(A.alloc<|.cells #[H] 162).ownsRow ab.heap.size 92 9 (.slice al ad aw) ad<|Bd<|Ha J:=GD bp λq G=>by
  obtain⟨q1,q2⟩:=bp.lt q G;exact cr q q2 oM oM oM
 have M:AW (Ag ab.cell?<|FK (Dy w.heap.size wb (.slice (some ⟨I,0,none⟩) ar wc) S)<|DL F<|ak++[t])<|Ag (A.alloc<|.cells #[H] 162).cell?<|FK (Dy w.heap.size A.heap.size H S)<|DL F<|ak++DH g J 0:=Bv λq G ap=>by
  obtain⟨dz,cD⟩:=LM.1 ap;obtain⟨dT,bC,bF,d0⟩:=I0.1 dz;have cF:q≠I:=λe=>bF (by rw[e];rfl);refine⟨LM.2 ⟨I0.2 ⟨dT,by omega,λe=>?_,d0⟩,λs d1 e=>?_⟩,(cr q oM (cD (t.tk F)<|tr bs) bC cF).trans<|be.block q G⟩
  .rcases cf with q1|⟨s,q1,q2⟩
   .rw[q1]at e;simp at e;exact cF e
   .rw[q1]at e;simp at e;omega
  .obtain⟨d2,a7,rfl⟩:=CQ.1 d1
   rcases Cq.1 a7 with a7|a7
   .exact cD (d2.tk F) (tr<|Cq.2<|.inl a7) e
   .obtain⟨i,er,Z,rfl⟩:=Sk a7
    rcases ce with q1|q1
    .rw[q1]at Z;simp at Z
    .have:=(bp.lt g (by rw[q1];rfl)).1
     simp only[Ft.tk]at e;omega
 have hx:Dx F t.l=.mk k m u bd o rL d ((C7 t.l).map λnm=>(nm,Dx F<|Ci t.l nm)):=by
  rw[dk,Re,dm];rfl
 have a8:((C7 t.l).map λnm=>(nm,Dx F<|Ci t.l nm)).length=ad:=by
  have O:=RX List.length bo;rw[CE,CE]at O;unfold Ca at O;rw[CE,b9]at O;rw[CE,<-O]
 have bH:A9 (A.alloc<|.cells #[H] 162).cell? t.b t.p (.mk k m u bd o rL d ((C7 t.l).map λnm=>(nm,Dx F<|Ci t.l nm))) ⟨aa,ca,al,aw⟩:=by
  have c1:∀j,(A.alloc<|.cells #[H] 162).cell? ⟨t.b,t.p+j,none⟩=(wr.setCell ⟨t.b,t.p+7,none⟩<|.slice al ad aw).cell? ⟨t.b,t.p+j,none⟩:=λj=>
   RE (w:=wr.setCell ⟨t.b,t.p+7,none⟩<|.slice al ad aw) ((bG.block t.b oM).trans<|(a1.blk t.b oM bu bx).trans<|bf.block t.b (by rw[tJ];omega))
  have c2:∀j,j<7->(A.alloc<|.cells #[H] 162).cell? ⟨t.b,t.p+j,none⟩=wr.cell? ⟨t.b,t.p+j,none⟩:=λj es=>(c1 j).trans (NG _ _ _ _ (λe=>by have:=(Addr.mk.inj e).2.1;omega));obtain⟨d3,ao,d4,d5,d6,d7,d8,d9⟩:=dj.below be
  refine⟨(c2 0 oM).trans d3,(c2 1 oM).trans ao,(c2 2 oM).trans d4,(c2 3 oM).trans d5,(c2 4 oM).trans d6,(c2 5 oM).trans d7,(c2 6 oM).trans d8,?_⟩;rw[c1 7,a8];exact N2 _ _ _ d9
 obtain⟨_,_,c3,c4,c5,eb⟩:=Ev cx;simp only[CH,true_and]at c3;obtain⟨rfl,rfl⟩:=c3;have c6:H.ownBlock=(Value.slice (some ⟨I,0,none⟩) ar wc).ownBlock\/∃s,H.ownBlock=some s/\W0.heap.size<=s:=by
  rcases cf with q|⟨s,q1,q2⟩
  .exact .inl q
  .exact .inr ⟨s,q1,by omega⟩
 by_cases c8:J=[]
 .subst c8
  have ed:((C7 t.l).map λnm=>(nm,Dx F<|Ci t.l nm))=[]:=R0 (by rw[a8,<-b9];rfl);rw[ed]at hx bH a8;rw[show DH g ([]:List Pe) 0=[]from rfl]at bq M⊢;exact FJ.next h bn co (Boxed.new A _ _) oM (bq.alloc _) c6 (g:=W0.heap.size) (rP _) (λs ap=>by cases ap) List.Pairwise.nil hx bH (b6.on M) b7 ⟨by rw[a8];exact c4,c5⟩ (.inl rfl) (λi nm y bl=>by simp at bl) (λs ap=>by cases ap)
 have ba:al=some ⟨g,0,none⟩:=ce.resolve_left c8;rcases eb with⟨q,_⟩|⟨ch,q,eu,ev,ee,ew⟩
 .rw[ba]at q;cases q
 rw[ba]at q;simp only[RV,Cj]at q;obtain⟨rfl,_⟩:=q;have c9:∃cs,(A.alloc<|.cells #[H] 162).heap[g]? =some (.cells cs 92 (0,0)):=by
  rcases cx.2 with⟨ao,_⟩|⟨ch,cap,cl,ao,_,bA,_⟩
  .rw[ba]at ao;cases ao
  .rw[ba]at ao
   simp only[CH,RV,Cj]at ao;rw[<-ao.1.1]at bA;exact⟨cl,bA⟩
 have da:∀(i:Nat) e,J[i]? =some e->Ep (A.alloc<|.cells #[H] 162).cell? g (i*9) e.n zN zH:=λi e Z=>JY.2 λq u G=>ee _ _<|KA _ _ _ _ _ (qc Z) q u G;have ef:=(h.see t bs).1
 refine FJ.next h bn co (Boxed.new A _ _) oM (bq.alloc _) c6 (g:=g) oM (λs ap=>?_) (np F g J 0) hx bH (b6.on M) b7 ⟨by rw[a8];exact c4,c5⟩ (.inr ⟨ba,c9⟩) (λi nm y bl=>?_) λs ap=>?_
 .obtain⟨i,e,Z,rfl⟩:=Sk ap
  exact⟨rfl,⟨i,rfl⟩,c9,(da i e Z).2⟩
 .rw[R6]at bl
  obtain⟨dd,bY,bb⟩:=R2.1 bl;simp only[Prod.mk.injEq]at bb;obtain⟨rfl,rfl⟩:=bb;obtain⟨e,Z,G⟩:=lF bo (i:=i) (p:=(dd,Ci t.l dd)) (by rw[R6,bY];rfl);simp only[Prod.mk.injEq]at G;refine⟨by rw[G.1];exact(da i e Z).1,?_⟩;rw[G.2];exact CQ.2 ⟨_,mJ Z,rfl⟩
 .obtain⟨i,e,Z,rfl⟩:=Sk ap
  have de:=mn bo Z;rw[R6]at de;obtain⟨nm,bY,bb⟩:=R2.1 de;simp only[Prod.mk.injEq]at bb;have eg:=MI.1<|NW bY;refine⟨?_,?_⟩
  .show Ic (e.L.map Sp.pr)
   rw[<-bb.2];exact ef.next eg
  .have O:=(dn e<|NW Z).on M
   show ES _ (.slice e.a (e.L.map Sp.pr).length e.c) (e.L.map Sp.pr);rw[CE];exact O
def wt:List Ft->Nat
 |[]=>0
 |t::r=>tot t.l+wt r
theorem SJ:∀a b:List Ft,wt (a++b)=wt a+wt b
 |[],b=>by simp[wt]
 |t::a,b=>by simp[wt,SJ a b];omega
theorem Zi:∀{T:List Ft},(∀t∈T,t.l≠[])->T.length<=wt T
 |[],_=>rP _
 |t::r,h=>by
  have H:=Zi λs G=>h s<|R4 _ G;have I:=CC.2<|h t<|N4 ..
  have J:=LJ t.l;simp[wt];omega
theorem Y4:∀T:List Ft,wt T=(T.map λt=>tot t.l).sum
 |[]=>rfl
 |t::r=>by rw[wt,Y4 r,CB,List.sum_cons]
theorem lZ:∀l:List Nat,l.reverse.sum=l.sum:=by grind
theorem lU{l:Bc}(h:(Ca G).map Kl=(C7 l).map λnm=>(nm,Ci l nm)):wt (DH g G 0)+l.length<=tot l:=by
 have I:=Pv l (C7 l)<|Q9<|Ov l;rw[<-pB (_g:=g) h]at I;have e:wt (DH g G 0)=(G.map λe=>tot<|e.L.map Sp.pr).sum:=by
  rw[Y4];unfold DH;rw[List.drop_zero,tC,List.map_reverse,lZ];congr 1;apply List.ext_getElem?;intro i;rw[R6,R6];by_cases H:i<G.length
  .rw[List.getElem?_range H,NA H]
   simp only[tx,Function.comp];rw[P4<|NA H]
  .rw[tP (by simpa using H),tP oM]
   rfl
 rw[e];exact I
end Go.Proofs.YtchpdmjlicmdaaaGreatDoor
