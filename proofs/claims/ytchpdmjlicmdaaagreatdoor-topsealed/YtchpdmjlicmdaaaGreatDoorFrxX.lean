/- Part: Frx Fwx Gdx Hcy Hpc Hpd Hpe. -/
import Derived.Test.YtchpdmjlicmdaaaGreatDoorFqxX
set_option maxRecDepth 100000
set_option maxHeartbeats 16000000
namespace Go.Proofs.YtchpdmjlicmdaaaGreatDoor
open Go.RowKit Go.Shelf Go.Proofs.Tryz
variable {b cap j:Nat}{W w:World}{L:Ch}{nm:BA}{S:Nat->Bool}{x:Nd}{h:Hd}{gs us:List Rg}
def qY(W:World)(base:Nat)(v:Value):Prop:=W.ownsRow base 92 9 v 0<|Bd []
theorem jO{G:List Pe}{e:Pe}(h:G[j]? =some e):Ha (G.take<|j+1)=Ha (G.take j)++[(e.n,zN,zH)]:=by grind [Ha,CO]
def Hn(w:World)(b p:Nat)(nm:BA):World:=((((((((w.setCell (aD b p)<|.string nm).setCell (aD b<|p+1)<|iN 0).setCell (aD b<|p+2)<|iN 0).setCell (aD b<|p+3)<|iN 0).setCell (aD b<|p+4)<|iN 0).setCell (aD b<|p+5)<|.bool false).setCell (aD b<|p+6)<|nL).setCell (aD b<|p+7)<|.string ⟨#[]⟩).setCell (aD b<|p+8)<|nL
theorem XO{base g n:Nat}(h:w.ownsRow base 92 9 (sL g 0 (n+1) cap) (n+1)<|Bd L++Bd [(⟨#[]⟩,zN,zH)])(H:L.length=n)(nm:BA):(Hn w g (n*9) nm).ownsRow base 92 9 (sL g 0 (n+1) cap) (n+1)<|Bd<|L++[(nm,zN,zH)]:=by
 have I:(Bd L).length=n*9:=by rw[IQ,H]
 have G:=IP (IP (IP (IP (IP (IP (IP (IP (IP h (n*9)<|.string nm) (n*9+1)<|iN 0) (n*9+2)<|iN 0) (n*9+3)<|iN 0) (n*9+4)<|iN 0) (n*9+5)<|.bool false) (n*9+6)<|nL) (n*9+7)<|.string ⟨#[]⟩) (n*9+8)<|nL;rw[MD];have e:(((((((((Bd L++Bd [((⟨#[]⟩:BA),zN,zH)]).set (n*9)<|.string nm).set (n*9+1)<|iN 0).set (n*9+2)<|iN 0).set (n*9+3)<|iN 0).set (n*9+4)<|iN 0).set (n*9+5)<|.bool false).set (n*9+6)<|nL).set (n*9+7)<|.string ⟨#[]⟩).set (n*9+8) (nL)=Bd L++Bd [(nm,zN,zH)]:=by
  simp_all [Bd,Bq,zN,zH]
 rw[e]at G;exact G
theorem gO{base g n:Nat}(h:w.ownsRow base 92 9 (sL g 0 (n+1) cap) (n+1)<|Bd L++Bd [(⟨#[]⟩,zN,zH)])(G:L.length=n):Ep w.cell? g (n*9) ⟨#[]⟩ zN zH/\∀j,w.frozen? (aD g j)=false:=by
 obtain⟨a,c,e,_,_,I⟩:=Ev h;simp only[CH,true_and]at e;rcases I with⟨q,_⟩|⟨ab,q,_,_,J,O⟩
 .grind
 .rw[q]at e
  simp only[RV,Cj]at e;obtain⟨⟨rfl,_⟩,_⟩:=e;refine⟨JY.2 λj u H=>?_,O⟩;refine J _ _ ?_;rw[CG (by rw[IQ,G];omega),IQ,G,Nat.add_sub_cancel_left];have Z:=(NE.1 H).1;simp[Fb]at Z;show(Value.string ⟨#[]⟩::(Bq zN zH++[]))[j]? =some u;rw[te];exact H
def Tr(Q:Exit->Act->World->Prop):Exit->Act->World->Prop
 |.normal,a,w=>Q .normal a w
 |.ret,a,w=>Q .ret a w
 |.exit i,a,w=>Q (.exit i) a w
 |.goto i,a,w=>Q (.goto i) a w
 |.panic _,_,_=>False
 |.outgrown,_,_=>False
theorem V4{Q:Exit->Act->World->Prop}{a:Act}(h:Q .ret a w):Tr Q .ret a w:=h
theorem iO{Q:Exit->Act->World->Prop}(e:Exit)(a:Act)(w:World)(h:Tr Q e a w):Q e a w:=by
 cases e with
 |panic c=>exact h.elim
 |outgrown=>exact h.elim
 |normal=>exact h
 |ret=>exact h
 |exit i=>exact h
 |goto i=>exact h
theorem XS{p:Nat}:Az b w<|Hn w b p nm:=by
 unfold Hn;exact(((((((((Az.refl b w).setCell _ _ _).setCell _ _ _).setCell _ _ _).setCell _ _ _).setCell _ _ _).setCell _ _ _).setCell _ _ _).setCell _ _ _).setCell _ _ _
theorem rD{J I:World}{cb G H:Nat}{vo:Value}(ab:Boxed I cb 29 vo)(ak:I.ownsRow J.heap.size 92 9 (sL G 0 (j+1) H) (j+1)<|Bd L++Bd [(⟨#[]⟩,zN,zH)])(al:L.length=j)(ad:Below J.heap.size J I)(Z:cb≠G)(ao:J.heap.size<=cb)(ap:J.heap.size<=G):
 (Boxed ((Hn I G (j*9) nm).setCell (aD cb 0)<|sL G 0 (j+1) H) cb 29 (sL G 0 (j+1) H)/\((Hn I G (j*9) nm).setCell (aD cb 0)<|sL G 0 (j+1) H).ownsRow J.heap.size 92 9 (sL G 0 (j+1) H) (j+1) (Bd<|L++[(nm,zN,zH)])/\Below J.heap.size J ((Hn I G (j*9) nm).setCell (aD cb 0)<|sL G 0 (j+1) H))/\
 (Boxed (Hn (I.setCell (aD cb 0)<|sL G 0 (j+1) H) G (j*9) nm) cb 29 (sL G 0 (j+1) H)/\(Hn (I.setCell (aD cb 0)<|sL G 0 (j+1) H) G (j*9) nm).ownsRow J.heap.size 92 9 (sL G 0 (j+1) H) (j+1) (Bd<|L++[(nm,zN,zH)])/\Below J.heap.size J (Hn (I.setCell (aD cb 0)<|sL G 0 (j+1) H) G (j*9) nm)):=by
 have ar:Az G I<|Hn I G (j*9) nm:=XS;have aw:Az G (I.setCell (aD cb 0)<|sL G 0 (j+1) H)<|Hn (I.setCell (aD cb 0)<|sL G 0 (j+1) H) G (j*9) nm:=XS;have a1:Boxed (Hn I G (j*9) nm) cb 29 vo:=(ar.block cb ab.lt Z).trans ab;have az:=ab.set<|sL G 0 (j+1) H;have a6:(I.setCell (aD cb 0)<|sL G 0 (j+1) H).ownsRow J.heap.size 92 9 (sL G 0 (j+1) H) (j+1)<|Bd L++Bd [(⟨#[]⟩,zN,zH)]:=GD ak λk O=>by
  simp[Value.ownBlock]at O;subst O;exact Cv _ _ _ _ λe=>Z<|Eq.symm e
 refine⟨⟨a1.set _,?_,?_⟩,⟨(aw.block cb az.lt Z).trans az,XO a6 al nm,?_⟩⟩
 .exact GD (XO ak al nm) λk O=>by
   simp[Value.ownBlock]at O;subst O;exact Cv _ _ _ _ λe=>Z<|Eq.symm e
 .exact(ad.trans<|ar.below ap ad.size).setCell (p:=(aD cb 0)) ao _
 .have aA:=ad.setCell (p:=(aD cb 0)) ao (sL G 0 (j+1) H)
  exact aA.trans<|aw.below ap aA.size
def KX(G:World)(cb I:Nat)(J:List Pe)(i:Value)(wr:World):Prop:=∃(j:Nat) (va:Option Addr) (H:Nat),j<=I/\i=iN j/\Boxed wr cb 29 (.slice va j H)/\Hid (wr.ownsRow G.heap.size 92 9 (.slice va j H) j<|Bd<|Ha<|J.take j)/\Below G.heap.size G wr
theorem KX.next{G wr:World}{cb H I J:Nat}{O:List Pe}(ak:j<H)(Z:Boxed wr cb 29<|sL I 0 (j+1) J)(ab:wr.ownsRow G.heap.size 92 9 (sL I 0 (j+1) J) (j+1)<|Bd<|Ha<|O.take<|j+1)(ad:Below G.heap.size G wr):KX G cb H O (iN<|(j:Int)+1) wr:=⟨j+1,_,_,by omega,by simp,Z,ab,ad⟩
attribute [local go_sem] Oper.semAt_some in
theorem iL(fx:∀k,S k=true->k<w.heap.size){a:Option Addr}{xs:List Nd}(hx:CP (Ag w.cell? S) a xs)(oo:xs.length<=1000)(hU:EM<|A5 xs)(b6:A8 (A5 xs)≠[]->Ic (A8<|A5 xs)){fv:Value}{F:Nd->Nat->Nd}(hF:Qf w fv F):
 Calls prog 40 #[.slice a xs.length cap,fv] w λe w'=>((A8 (A5 xs)=[]/\e=.returned (.tuple #[At zN zH,.bool false]))\/(A8 (A5 xs)≠[]/\∃h,e=.returned (.tuple #[At (Dx F<|A8<|A5 xs) h,.bool true])/\Am (Ag w'.cell? S) (Dx F<|A8<|A5 xs) h))/\Below w.heap.size w w':=by
 have a1:Below w.heap.size w<|w.alloc<|.cells #[.int .i64 0,.int .i64 0,.int .i64 0,.int .i64 0,.bool false,.slice none 0 0,.string ⟨#[]⟩,.slice none 0 0] 31:=(NB _ _).alloc (rP _) _;have hV:∀k,(k==w.heap.size||S k)=true->k<(w.alloc<|.cells #[.int .i64 0,.int .i64 0,.int .i64 0,.int .i64 0,.bool false,.slice none 0 0,.string ⟨#[]⟩,.slice none 0 0] 31).heap.size:=λk aA=>by
  rw[ND];simp at aA;rcases aA with e|e
  .omega
  .have:=fx k e;omega
 have hW:AW (Ag w.cell? S)<|Ag (w.alloc<|.cells #[.int .i64 0,.int .i64 0,.int .i64 0,.int .i64 0,.bool false,.slice none 0 0,.string ⟨#[]⟩,.slice none 0 0] 31).cell? (λk=>k==w.heap.size||S k):=Bv λk aA al=>⟨by simp[al];omega,a1.block k aA⟩;have e0:Hid _:=Sh (cap:=cap) (rN:=0) (an:=none) (ry:=[]) hV (hx.on hW) (.inl rfl) oo oS hU
 have hX:=AC.zero w;have e1:(w.alloc<|.cells #[.int .i64 0,.int .i64 0,.int .i64 0,.int .i64 0,.bool false,.slice none 0 0,.string ⟨#[]⟩,.slice none 0 0] 31).heap[w.heap.size]? =some (.cells #[.int .i64 0,.int .i64 0,.int .i64 0,.int .i64 0,.bool false,.slice none 0 0,.string ⟨#[]⟩,.slice none 0 0] 31 (0,0)):=tM w _;rw[show AX xs []=A8 (A5 xs)from rfl]at e0;generalize A8 (A5 xs)=bC at e0 b6⊢;have hY:Hid _:=b6;have hZ:Hid _:=hF;have dT:Hid _:=fx;clear hx hW hV b6 hF fx hU;refine(ts (n:=0)).1 ?_;refine callsIn_of_wp_marks func40 rfl trivial ?_ rfl;refine wpIn_wide.2 ?_;refine wp_mono (Q:=Tr _) ?_ iO;simp only[ntmps40,List.size_toArray,R5,RC,Nat.reduceAdd,Nat.reduceSub,tH,tG,List.push_toArray,List.append_toArray,CN,Cd];go_wp2_with fail
 refine rQ e0 ?_;rintro e d0 ⟨v,rfl,oq,bp⟩;have d1:=hX.below bp;have h0:=(bp.block w.heap.size (by rw[ND];omega)).trans e1;have b7:=a1.trans<|bp.mono a1.size;obtain⟨va,vc,D,rfl,g1,gb,g3,g4,e2⟩:=oq;clear e0 a1 hX e1;cases D with
 |nil=>
  have dd:Hid<|bC=[]:=e2.symm;clear g1 gb g3 g4 e2;obtain⟨⟨f0,f1,f2,f3,f4,f5,f6,f7⟩,e3⟩:=id d1;obtain⟨z0,ot,ou,z3,z4,z5,ox,oy⟩:=f8 e3;have h1:=d1.store zN zH;have bF:Below w.heap.size w<|As d0 w.heap.size zN zH:=b7.trans<|Cb.below (rP _) b7.size;go_wp2;obtain⟨b9,d2⟩:∃b9,Hid<|As d0 w.heap.size zN zH=b9:=⟨_,rfl⟩;rw[d2.out]at h1 bF;have de:=d2.out;simp only[As,zN,zH]at de;simp only[RC]at de;rw[de];obtain⟨d3,d4,ba,d5,bq,d6,bG,d7⟩:=h1.1;refine V4 ?_;show LeavesInM Fence.wide 0 prog Tryz.f40 _ _ [] .returning b9;exact⟨.tuple #[At zN zH,.bool false],by simp[results,results40,go_sem,At,zN,zH,d3,d4,ba,d5,bq,d6,bG,d7],.inl ⟨dd,rfl⟩,bF⟩
 |cons s D=>
  have dd:Hid<|(s::D).map Sp.pr=bC:=e2;have h2:Hid _:=g3;have h3:Hid _:=g4;obtain⟨e4,d8⟩:∃e4,Hid<|D.length=e4:=⟨_,rfl⟩;simp only[R5]at g1⊢;rw[d8.out]at g1⊢;have h4:Hid (∀W:World,Calls prog 75 #[fv] W λe w'=>e=.returned (.func (.func 107) #[] #[.pointer<|some ⟨W.heap.size,0,none⟩])/\w'=W.alloc (.cells #[fv] 121)):=λW=>eJ W fv (by rcases hZ.out with⟨q,_⟩|⟨gf,lb,q,_⟩<;>rw[q]<;>rfl);clear g3 g4 e2
  go_wp2_with fail
  refine rQ (h4.out _) ?_;rintro e aw ⟨rfl,rfl⟩;go_wp2;have b6:=hY.out (by rw[<-dd.out];simp);have h5:bC.length=e4+1:=by rw[<-dd.out];simp[d8.out]
  have h6:w.heap.size<d0.heap.size:=d1.1.lt;have e5:=FJ.start (F:=F) (fv:=fv) (va:=va) (vc:=vc) dT b7 h6 d1 ⟨_,h0⟩ b6 h5 ⟨va,vc,s::D,by simp[d8.out],by simp[d8.out];exact g1,gb,h2,h3,dd⟩;have h7:=b6.tot;have oQ:Hid<|bC≠[]:=b6.ne;clear h2 h3 h4 dd d8 hY h5 d1 h0 b7 bp b6 g1 gb;generalize oR:d0.heap.size=bl at e5 h6⊢;generalize((((d0.alloc<|.cells #[fv] 121).alloc<|.cells #[.int .i64 0,.int .i64 0,.int .i64 0,.int .i64 0,.bool false,.slice none 0 0,.string ⟨#[]⟩,.slice none 0 0] 31).alloc<|.cells #[.pointer<|some ⟨bl+1,0,none⟩,.slice va (e4+1) vc] 161).alloc<|.cells #[.slice (some ⟨bl+1+1,0,none⟩) 1 1] 162)=W0 at e5⊢;clear oR;refine wp_loop_ghost_k (λgk h8 W=>∃(X:Nat->Value) (wb:Nat) (ks:List Nat) (vw:Value) (T:List Ft),h8={tmps:=Fk X,defers:=TS ks}/\X 4=.pointer (some ⟨w.heap.size,0,none⟩)/\X 7=.func (.func 107) #[] #[.pointer<|some ⟨bl,0,none⟩]/\X 8=.pointer (some ⟨bl+1,0,none⟩)/\X 9=.pointer (some ⟨wb,0,none⟩)/\Hid (FJ F S w W bl (bl+1) wb fv vw T bC)/\Hid (JO w W ks)/\Hid (wt T<=gk)/\gk<=1000) (tot bC) ⟨_,_,[],_,_,Gh rfl,rfl,rfl,rfl,rfl,e5,⟨List.nodup_nil,λk aA=>(by cases aA)⟩,by show _<=_;simp[wt],h7⟩ ?_;clear e5 h7;rintro gk h8 W ⟨X,wb,ks,vw,T,rfl,h9,ih,iw,iz,ab,d9,i0,r9⟩ sa K i1 o0;simp only[Fk,h9,ih,iw,iz];clear h9 ih iw iz;have i2:Hid _:=i1;clear i1;obtain⟨o1,wc,o2,i4,gg,i5⟩:=Ev ab.row;subst o2;rcases List.eq_nil_or_concat T with rfl|⟨G,t,i8⟩
  .have dg:=ab.out.wbx.cell
   simp only[RC]at dg;obtain⟨hd,gl,go⟩:=ab.prt.done;have gq:=ab.out.res;clear i5 i4 gg;have o3:bC≠[]:=oQ.out;generalize hx:Dx F bC=x at gl go⊢;obtain⟨k,m,u,g,o,rL,d,bs⟩:=x;obtain⟨sb,q1,q2,sc,q4,q5,q6,q7⟩:=gl.on<|oH _ _ _;obtain⟨⟨f0,f1,f2,f3,f4,f5,f6,f7⟩,e3⟩:=id gq;obtain⟨z0,ot,ou,z3,z4,z5,ox,oy⟩:=f8 e3;have ja:=gq.store (.mk k m u g o rL d bs) hd;have e6:Az w.heap.size W<|As W w.heap.size (.mk k m u g o rL d bs) hd:=Cb;have dj:Below w.heap.size w<|As W w.heap.size (.mk k m u g o rL d bs) hd:=ab.low.trans<|e6.below (rP _) ab.low.size
   have jc:JO w (As W w.heap.size (.mk k m u g o rL d bs) hd) ks:=⟨d9.out.nd,λj bn=>by
    obtain⟨bH,ap⟩:=d9.out.rL j bn;exact⟨bH,(e6.block j (N3.1 ap).1 oM).trans ap⟩⟩
   have ji:Am (Ag W.cell?<|Dy w.heap.size wb (.slice o1 0 wc) S) (.mk k m u g o rL d bs) hd:=go.on<|lq _ _;have jj:∀eb:World,(∀q v,(As W w.heap.size (.mk k m u g o rL d bs) hd).cell? q=some v->eb.cell? q=some v)->Am (Ag eb.cell? S) (.mk k m u g o rL d bs) hd:=λeb bb=>ji.on λq v J=>by
    have al:=I0.1<|Gg J;rw[CV<|Gg J]at J;rw[CV al.2.2.2];exact bb q v<|(Qh e6 q (NF _ _ J) al.1).trans J
   have j0:Hid _:=jj;have gr:Hid _:=dj;have j1:Hid _:=jc;have j2:Hid _:=ja;obtain⟨b9,d2⟩:∃b9,Hid<|As W w.heap.size (.mk k m u g o rL d bs) hd=b9:=⟨_,rfl⟩;rw[d2.out]at j0 gr j1 j2;have j3:Hid<|Dx F bC=.mk k m u g o rL d bs:=hx;clear gl go ji jj dj jc ja e6 gq hx ab d9 i0 i2 o0 e3;go_wp2;have de:=d2.out;simp only[As]at de;rw[de];refine V4 ?_;show LeavesInM Fence.wide 0 prog Tryz.f40 _ _ (TS ks) .returning b9;refine Ui ks b9 j1.out (λeb bb hb=>?_) gr;obtain⟨d3,d4,ba,d5,bq,d6,bG,d7⟩:=j2.1;have d3:=bb _ _ d3;have d4:=bb _ _ d4;have ba:=bb _ _ ba;have d5:=bb _ _ d5;have bq:=bb _ _ bq;have d6:=bb _ _ d6;have bG:=bb _ _ bG;have d7:=bb _ _ d7;exact⟨.tuple #[At (.mk k m u g o rL d bs) hd,.bool true],by simp[results,results40,go_sem,At,d3,d4,ba,d5,bq,d6,bG,d7],.inr ⟨o3,hd,by rw[j3.out],by rw[j3.out];exact j0 eb bb⟩,gr.trans hb⟩
  .rw[List.concat_eq_append]at i8
   subst i8;have gu:(G++[t]).length=G.length+1:=by simp
   have gv:t∈G++[t]:=by simp
   obtain⟨j4,dk,t3,t4⟩:=ab.tb (λ_=>trivial) dT gv;have gw:=ab.out.plc t gv;obtain⟨bY,gx⟩:=ab.see t gv;have se:wt G+tot t.l<=gk:=by have H:=i0.out;rw[SJ]at H;simp[wt]at H;omega
   have sf:G.length<=1000:=by
    have H:=Zi (T:=G) λs al=>(ab.see s (by simp[al])).1.ne;omega
   rcases i5 with⟨_,dm,_⟩|⟨I,o4,sg,o5,gy,_⟩
   .rw[gu]at dm;omega
   subst o4;have p0:=gy _ _ (Xe G t).1;have p1:=gy _ _ (Xe G t).2;have dg:=ab.out.wbx.cell;have o6:=ab.out.wbx.frozen;rw[gu]at dg i4;have ka:W.ownsRow w.heap.size 161 2 (.slice (some ⟨I,0,none⟩) G.length wc) G.length<|EB G:=by
    have H:=ab.out.row;rw[gu,Pp]at H;exact ownsRow_pop (Nj G) H
   have o7:I≠wb:=λq=>by
    rcases ab.row.2 with⟨bd,_⟩|⟨g,cap,kb,bd,_,az,_⟩
    .cases bd
    .simp only[CH,RV,Cj]at bd
     have H:=ab.out.wbx;unfold Boxed at H;rw[<-bd.1.1,q,H]at az;simp at az
   have o8:w.heap.size<wb:=by
    have H:=ab.out.wbl;have bf:wb≠w.heap.size:=λq=>by
     obtain⟨cs,bu⟩:=ab.rty;have H:=ab.out.wbx;unfold Boxed at H;rw[q,bu]at H;simp at H
    omega
   have sh:=ab.out.wbx.lt;have co:Dy w.heap.size wb (.slice (some ⟨I,0,none⟩) (G++[t]).length wc) S wb=true:=by simp[Dy]
   obtain⟨ed,gz⟩:∃ed,Hid<|Dy w.heap.size wb (.slice (some ⟨I,0,none⟩) (G++[t]).length wc) S=ed:=⟨_,rfl⟩;obtain⟨ar,cr⟩:∃ar,Hid<|FK (Dy w.heap.size wb (.slice (some ⟨I,0,none⟩) (G++[t]).length wc) S) (DL F<|G++[t])=ar:=⟨_,rfl⟩;have kf:∀k,ar k=true->k<W.heap.size:=λk aA=>by
    rw[<-cr.out]at aA;simp only[FK,Bool.or_eq_true,List.any_eq_true]at aA;rcases aA with q|⟨s,al,q⟩
    .simp[Dy,Value.ownBlock]at q
     rcases q with((q|q)|q)|q
     .omega
     .omega
     .omega
     .have:=dT.out k q;omega
    .obtain⟨ee,o9,rfl⟩:=CQ.1 al
     have H:=(ab.tb (λ_=>trivial) dT o9).2.1;simp[Ft.tk]at q;omega
   have kk:ar wb=true:=by rw[<-cr.out];simp[FK,Dy]
   have e7:ar t.b=true:=by rw[<-cr.out];simp[FK,Ft.tk]
   rw[cr.out]at gx;rw[gz.out]at t3 co;have ko:W.heap.size<=(W.setCell ⟨wb,0,none⟩<|.slice (some ⟨I,0,none⟩) G.length wc).heap.size:=by rw[tJ];exact rP _
   have a1:Below W.heap.size (W.setCell ⟨wb,0,none⟩<|.slice (some ⟨I,0,none⟩) G.length wc)<|(W.setCell ⟨wb,0,none⟩<|.slice (some ⟨I,0,none⟩) G.length wc).alloc<|.cells #[.pointer<|some ⟨t.b,t.p,none⟩,.slice t.a t.l.length t.c] 161:=(NB _ _).alloc ko _;have kq:Below (W.setCell ⟨wb,0,none⟩<|.slice (some ⟨I,0,none⟩) G.length wc).heap.size (W.setCell ⟨wb,0,none⟩<|.slice (some ⟨I,0,none⟩) G.length wc)<|(W.setCell ⟨wb,0,none⟩<|.slice (some ⟨I,0,none⟩) G.length wc).alloc<|.cells #[.pointer<|some ⟨t.b,t.p,none⟩,.slice t.a t.l.length t.c] 161:=(NB _ _).alloc (rP _) _;have ba:RR w W ((W.setCell ⟨wb,0,none⟩<|.slice (some ⟨I,0,none⟩) G.length wc).alloc<|.cells #[.pointer<|some ⟨t.b,t.p,none⟩,.slice t.a t.l.length t.c] 161) ed<|t.tk F:=((RR.start ab.low gw.typ).set ⟨dk,t3⟩ oM (p:=⟨wb,0,none⟩) o8 (.inr co) _).below ⟨dk,t3⟩ oM kq;have g0:Boxed ((W.setCell ⟨wb,0,none⟩<|.slice (some ⟨I,0,none⟩) G.length wc).alloc<|.cells #[.pointer<|some ⟨t.b,t.p,none⟩,.slice t.a t.l.length t.c] 161) wb 162<|.slice (some ⟨I,0,none⟩) G.length wc:=(ab.wbx.set _).alloc _
   have g2:((W.setCell ⟨wb,0,none⟩<|.slice (some ⟨I,0,none⟩) G.length wc).alloc<|.cells #[.pointer<|some ⟨t.b,t.p,none⟩,.slice t.a t.l.length t.c] 161).ownsRow w.heap.size 161 2 (.slice (some ⟨I,0,none⟩) G.length wc) G.length<|EB G:=(GD ka λg az=>by
    simp[Value.ownBlock]at az;subst az;exact Cv _ _ _ _ (by exact o7)).alloc _
   have g5:JO w ((W.setCell ⟨wb,0,none⟩<|.slice (some ⟨I,0,none⟩) G.length wc).alloc<|.cells #[.pointer<|some ⟨t.b,t.p,none⟩,.slice t.a t.l.length t.c] 161) ks:=⟨d9.out.nd,λj bn=>by
    obtain⟨bH,ap⟩:=d9.out.rL j bn;refine⟨bH,(a1.block j (N3.1 ap).1).trans<|(Cv _ _ _ _ λq=>?_).trans ap⟩;have H:=ab.out.wbx;unfold Boxed at H;rw[show j=wb from q,H]at ap;cases ap⟩
   have kv:=gx.on (Bv (w:=W) (w':=(W.setCell ⟨wb,0,none⟩<|.slice (some ⟨I,0,none⟩) G.length wc).alloc<|.cells #[.pointer<|some ⟨t.b,t.p,none⟩,.slice t.a t.l.length t.c] 161) (S':=ar) λk aA al=>⟨al,(a1.block k aA).trans (Cv _ _ _ _ λq=>by rw[show k=wb from q,kk]at al;cases al)⟩);have g6:=GS (W.setCell ⟨wb,0,none⟩<|.slice (some ⟨I,0,none⟩) G.length wc) (.pointer<|some ⟨t.b,t.p,none⟩) (.slice t.a t.l.length t.c) 161;rw[tJ]at g6;have kx:A9 ((W.setCell ⟨wb,0,none⟩<|.slice (some ⟨I,0,none⟩) G.length wc).alloc<|.cells #[.pointer<|some ⟨t.b,t.p,none⟩,.slice t.a t.l.length t.c] 161).cell? t.b t.p zN zH:=Vo gw.cell λj _=>RE (w:=W)<|(a1.block t.b dk).trans (Cv _ _ _ _ λq=>by rw[show t.b=wb from q,co]at t3;cases t3);have g7:((W.setCell ⟨wb,0,none⟩<|.slice (some ⟨I,0,none⟩) G.length wc).alloc<|.cells #[.pointer<|some ⟨t.b,t.p,none⟩,.slice t.a t.l.length t.c] 161).cell? ⟨bl,0,none⟩=some fv:=by
    have H:=ab.out.fbx
    have bf:((W.setCell ⟨wb,0,none⟩<|.slice (some ⟨I,0,none⟩) G.length wc).alloc<|.cells #[.pointer<|some ⟨t.b,t.p,none⟩,.slice t.a t.l.length t.c] 161).heap[bl]? =some (.cells #[fv] 121 (0,0)):=(a1.block bl (N3.1 H).1).trans<|(Cv _ _ _ _ λq=>by
     have ef:=ab.out.wbx;unfold Boxed at ef;rw[show bl=wb from q,ef]at H;simp at H).trans H
    simp[World.cell?,bf]
   have pa:IntKind.i64.wrap ((G.length:Int)+1-1)=(G.length:Int):=(DQ oM oM).trans oM;have pc:decide ((G.length:Int)+1>0)=true:=NY oM;clear gy ka gx gw;go_upto_region 10 with fail
   clear a1 kq ko p0 p1 dg o6 pa pc;generalize gg:(W.setCell ⟨wb,0,none⟩<|.slice (some ⟨I,0,none⟩) G.length wc).alloc (.cells #[.pointer<|some ⟨t.b,t.p,none⟩,.slice t.a t.l.length t.c] 161)=aw at ba g0 g2 g5 kv g6 kx g7⊢;clear gg;obtain⟨n0,g8⟩:=g6;obtain⟨a6,g9⟩:∃a6,Hid<|W.heap.size=a6:=⟨_,rfl⟩;have si:W.heap.size<=aw.heap.size:=ba.siz;rw[g9.out]at n0 g8;rw[g9.out];obtain⟨sj,sk,b0,ky,pe,pf,ha,hc,e8⟩:=kv;simp only[CH]at ky;obtain⟨rfl,pg,rfl⟩:=ky;cases b0 with
   |nil=>exact absurd e8.symm bY.ne
   |cons O b0=>
    obtain⟨vb,vo,he,hf⟩:∃b hg,t.a=some ⟨b,hg,none⟩/\∀i e9,(O::b0)[i]? =some e9->Ag aw.cell? ar ⟨b,hg+i*2,none⟩=some (.pointer<|some ⟨e9.b,e9.p,none⟩)/\Ag aw.cell? ar ⟨b,hg+i*2+1,none⟩=some (.int .i64 e9.ly):=by
     rcases ha with e|e
     .cases e
     .exact e
    obtain⟨v0,eg⟩:=hf 0 _ rfl;have v0:=BW _ _ _ _ v0;have eg:=BW _ _ _ _ eg;rw[tB,tl]at v0 eg;have k0:=hc O<|N4 ..;have k1:O.pr∈t.l:=by rw[<-e8];exact N4 ..
    have k2:Hid<|Calls prog 107 #[.agg #[.pointer<|some ⟨O.b,O.p,none⟩,.int .i64 O.ly],.pointer<|some ⟨bl,0,none⟩] aw.drew<|Mb (F (Gk O.x) O.ly) ar aw.drew:=jy (w0:=w) (W:=aw.drew) (λk aA=>N1 (kf k aA) ba.siz) ba.low.drew g7 hZ k0 (bY.lim _ k1)<|bY.ids _ k1;obtain⟨ej,ek,em,en,eo,ep,eq,er⟩:=kx;have cx:aw.drew.cell? ⟨a6,0,none⟩=some (.pointer<|some ⟨t.b,t.p,none⟩)/\aw.drew.cell? ⟨a6,1,none⟩=some (.slice (some ⟨vb,vo,none⟩) t.l.length t.c)/\aw.drew.cell? ⟨vb,vo,none⟩=some (.pointer<|some ⟨O.b,O.p,none⟩)/\aw.drew.cell? ⟨vb,vo+1,none⟩=some (.int .i64 O.ly):=by rw[<-he];exact⟨n0,g8,v0,eg⟩
    have k3:vb≠t.b:=λq=>by have H:=Gg (hf 0 _ rfl).1;rw[show(⟨vb,vo+0*2,none⟩:Addr).block=t.b from q,e7]at H;cases H
    have hh:a6≠t.b:=by have H:=g9.out;omega
    obtain⟨b1,es⟩:∃b1,t.l.length=b1:=⟨_,rfl⟩;have sl:0<b1:=by rw[<-es];exact CC.2 bY.ne
    have sm:(0:Int)<(b1:Int):=by omega
    rw[es]at cx;rw[he,es];have pi:=IX ba.typ.choose_spec.choose_spec.1;have hi:Hid _:=ba.typ;have k4:Hid _:=ba;have pl:Hid _:=es;have dn:Hid<|(O::b0).map Sp.pr=t.l:=e8;have k5:Hid<|Eh (Ag aw.cell? ar) t.a (O::b0):=ha;have k6:Hid (∀s∈O::b0,C8 (Ag aw.cell? ar) s):=hc;have hj:Hid _:=g0;have ce:Hid _:=g2;have hk:Hid _:=g5;have k7:Hid<|A9 aw.cell? t.b t.p zN zH:=⟨ej,ek,em,en,eo,ep,eq,er⟩;clear ba n0 g8 v0 eg hf ha hc e8 pe pf g0 g2 g5 es pg k0 ej ek em en eo ep eq er pi g7;go_region_held3 (λw'=>w'.cell? ⟨a6,0,none⟩=some (.pointer<|some ⟨t.b,t.p,none⟩)/\w'.cell? ⟨a6,1,none⟩=some (.slice (some ⟨vb,vo,none⟩) b1 t.c)/\w'.cell? ⟨vb,vo,none⟩=some (.pointer<|some ⟨O.b,O.p,none⟩)/\w'.cell? ⟨vb,vo+1,none⟩=some (.int .i64 O.ly)) (first|with_reducible exact cx|with_reducible exact dp|with_reducible exact fa) (first|(go_at_call 107;(with_reducible refine rQ k2.out ?_);rintro e ad ⟨k,m,u,g,o,rL,d,aa,ca,k8,rfl,pn,po,sn,k9,bF⟩;have dp:ad.cell? ⟨a6,0,none⟩=some (.pointer<|some ⟨t.b,t.p,none⟩)/\ad.cell? ⟨a6,1,none⟩=some (.slice (some ⟨vb,vo,none⟩) b1 t.c)/\ad.cell? ⟨vb,vo,none⟩=some (.pointer<|some ⟨O.b,O.p,none⟩)/\ad.cell? ⟨vb,vo+1,none⟩=some (.int .i64 O.ly):=⟨Ai bF _ _ cx.1,Ai bF _ _ cx.2.1,Ai bF _ _ cx.2.2.1,Ai bF _ _ cx.2.2.2⟩;have fa:(BS ad t.b t.p (.mk k m u g o rL d []) ⟨aa,ca,none,0⟩).cell? ⟨a6,0,none⟩=some (.pointer<|some ⟨t.b,t.p,none⟩)/\(BS ad t.b t.p (.mk k m u g o rL d []) ⟨aa,ca,none,0⟩).cell? ⟨a6,1,none⟩=some (.slice (some ⟨vb,vo,none⟩) b1 t.c)/\(BS ad t.b t.p (.mk k m u g o rL d []) ⟨aa,ca,none,0⟩).cell? ⟨vb,vo,none⟩=some (.pointer<|some ⟨O.b,O.p,none⟩)/\(BS ad t.b t.p (.mk k m u g o rL d []) ⟨aa,ca,none,0⟩).cell? ⟨vb,vo+1,none⟩=some (.int .i64 O.ly):=⟨(GQ λj _ q=>hh (Addr.mk.inj q).1).trans dp.1,(GQ λj _ q=>hh (Addr.mk.inj q).1).trans dp.2.1,(GQ λj _ q=>k3 (Addr.mk.inj q).1).trans dp.2.2.1,(GQ λj _ q=>k3 (Addr.mk.inj q).1).trans dp.2.2.2⟩;simp only[BS,RC]at fa;have cD:Below aw.heap.size aw ad:=((NB _ aw).drew).trans bF;obtain⟨ej,ek,em,en,eo,ep,eq,er⟩:=k7.out.below cD;have bx:=k4.out.below ⟨dk,t3⟩ oM cD;have ld:=IX bx.typ.choose_spec.choose_spec.1 t.p;have lf:=IX bx.typ.choose_spec.choose_spec.1<|t.p+1;have lk:=IX bx.typ.choose_spec.choose_spec.1<|t.p+2;have ln:=IX bx.typ.choose_spec.choose_spec.1<|t.p+3;have lo:=IX bx.typ.choose_spec.choose_spec.1<|t.p+4;have lp:=IX bx.typ.choose_spec.choose_spec.1<|t.p+5;have ls:=IX bx.typ.choose_spec.choose_spec.1<|t.p+6;have lx:=IX bx.typ.choose_spec.choose_spec.1<|t.p+7;have lz:Hid _:=bx;have lD:Hid _:=k9;have eu:Hid<|Below aw.heap.size aw ad:=cD;have pp:Hid _:=k8;have l0:Hid<|A9 ad.cell? t.b t.p zN zH:=⟨ej,ek,em,en,eo,ep,eq,er⟩;simp only[Ft.tk]at ld lf lk ln lo lp ls lx;clear k2 bx k9 bF cD k8))
    have bq:RR w W (BS ad t.b t.p (.mk k m u g o rL d []) ⟨aa,ca,none,0⟩) ed<|t.tk F:=lz.st8 (t:=t.tk F) j4 (.mk k m u g o rL d []) ⟨aa,ca,none,0⟩;have fb:Az t.b ad<|BS ad t.b t.p (.mk k m u g o rL d []) ⟨aa,ca,none,0⟩:=Pm;have hl:A9 (BS ad t.b t.p (.mk k m u g o rL d []) ⟨aa,ca,none,0⟩).cell? t.b t.p (.mk k m u g o rL d []) ⟨aa,ca,none,0⟩:=LV l0;have hm:AW (Ag aw.cell? ar)<|Ag (BS ad t.b t.p (.mk k m u g o rL d []) ⟨aa,ca,none,0⟩).cell? ar:=Bv λq J al=>⟨al,(fb.block q (N1 J eu.size) (λe=>by rw[e,e7]at al;cases al)).trans<|eu.block q J⟩;have hn:Bg (Ag (BS ad t.b t.p (.mk k m u g o rL d []) ⟨aa,ca,none,0⟩).cell? ar) aa rL:=Bg.on lD (Bv (w:=ad) (w':=BS ad t.b t.p (.mk k m u g o rL d []) ⟨aa,ca,none,0⟩) (S':=ar) λq J al=>⟨al,fb.block q J (λe=>by rw[e,e7]at al;cases al)⟩)
    have l1:Eh (Ag (BS ad t.b t.p (.mk k m u g o rL d []) ⟨aa,ca,none,0⟩).cell? ar) t.a (O::b0):=Eh.on k5 hm;have l2:∀s∈O::b0,C8 (Ag (BS ad t.b t.p (.mk k m u g o rL d []) ⟨aa,ca,none,0⟩).cell? ar) s:=λs al=>(k6 s al).on hm;have fc:∀q,q≠t.b->q<aw.heap.size->(BS ad t.b t.p (.mk k m u g o rL d []) ⟨aa,ca,none,0⟩).heap[q]? =aw.heap[q]?:=λq H bf=>(fb.block q (N1 bf eu.size) H).trans<|eu.block q bf
    have pr:wb≠t.b:=λe=>by rw[e,t3]at co;cases co
    have ps:I≠t.b:=λe=>by
     obtain⟨cs,l3,bu,e1⟩:=hi.out;rcases ce.2 with⟨bd,_⟩|⟨l4,px,kb,bd,_,az,_⟩
     .cases bd
     .simp only[CH,RV,Cj]at bd
      rw[<-bd.1.1,e]at az;simp only[Ft.tk]at bu;rw[bu]at az;simp at az;rcases e1 with q|q
      .rw[q]at az;exact absurd az.2 oD
      .rw[q]at az;exact absurd az.2 oD
    have ho:Boxed (BS ad t.b t.p (.mk k m u g o rL d []) ⟨aa,ca,none,0⟩) wb 162<|.slice (some ⟨I,0,none⟩) G.length wc:=(fc wb pr<|Boxed.lt hj).trans hj;have hp:(BS ad t.b t.p (.mk k m u g o rL d []) ⟨aa,ca,none,0⟩).ownsRow w.heap.size 161 2 (.slice (some ⟨I,0,none⟩) G.length wc) G.length<|EB G:=GD ce λl4 az=>by
     simp[Value.ownBlock]at az;subst az;exact fc _ ps (tK ce _ rfl).2
    have hq:JO w (BS ad t.b t.p (.mk k m u g o rL d []) ⟨aa,ca,none,0⟩) ks:=⟨hk.out.nd,λj bn=>by
     obtain⟨bH,ap⟩:=hk.out.rL j bn;refine⟨bH,(fc j (λe=>?_) (N3.1 ap).1).trans ap⟩;obtain⟨cs,l3,bu,_⟩:=hi.out;simp only[Ft.tk]at bu;rw[e,bu]at ap;cases ap⟩
    have ev:Hid _:=Vj (w:=BS ad t.b t.p (.mk k m u g o rL d []) ⟨aa,ca,none,0⟩) (S:=ar) (vc:=t.c) (λq J=>N1 (kf q J) bq.siz) l1 l2 (ZE dn bY.ly) (λs al=>bY.lil s.pr (by rw[<-dn.out];exact tr al)) (by rw[dn.out];exact bY.tot);rw[dn.out]at ev;have p4:(O::b0).length=b1:=by rw[<-pl.out,<-dn.out,CE]
    rw[p4,he]at ev;obtain⟨cF,ew⟩:∃cF,BS ad t.b t.p (.mk k m u g o rL d []) ⟨aa,ca,none,0⟩=cF:=⟨_,rfl⟩;have p5:cF.cell? ⟨a6,0,none⟩=some (.pointer<|some ⟨t.b,t.p,none⟩)/\cF.cell? ⟨a6,1,none⟩=some (.slice (some ⟨vb,vo,none⟩) b1 t.c)/\cF.cell? ⟨vb,vo,none⟩=some (.pointer<|some ⟨O.b,O.p,none⟩)/\cF.cell? ⟨vb,vo+1,none⟩=some (.int .i64 O.ly):=by rw[<-ew];simp only[BS,RC];exact fa
    rw[ew]at bq hl hn ho hp hq ev;simp only[BS,RC]at ew;rw[ew];obtain⟨l5,l8,_,_⟩:=p5;have l9:Hid _:=bq;have ma:Hid _:=hn;have mb:Hid _:=ho;have mc:Hid _:=hp;have c3:Hid _:=hq;have mf:Hid _:=hl;clear cx dp fa ej ek em en eo ep eq er ld lf lk ln lo lp ls lx ew lz lD eu l0 k5 k6 hj ce hk k7 hm hn l1 l2 fc ho hp hq fb bq hl k4 hi;go_wp2_with fail
    refine rQ ev ?_;rintro e ao ⟨v5,rfl,p6,b2⟩;obtain⟨ey,hr,ak,rfl,p7,so,mg,mi,hs⟩:=p6;obtain⟨bg,a7⟩:∃bg,Hid<|ak.length=bg:=⟨_,rfl⟩;have ht:bg<=1000:=by
     have H:=RX List.length hs;rw[CE,CE,show(Ca ak).length=ak.length by unfold Ca;rw[CE],a7]at H;have bf:=VC t.l;have ef:=bY.tot;omega
    have hu:=Ai b2 _ _ l5;have p8:=Ai b2 _ _ l8;have ml:A9 ao.cell? t.b t.p (.mk k m u g o rL d []) ⟨aa,ca,none,0⟩:=(show A9 cF.cell? t.b t.p (.mk k m u g o rL d []) ⟨aa,ca,none,0⟩from mf).below b2;have qa:Hid<|A9 ao.cell? t.b t.p (.mk k m u g o rL d []) ⟨aa,ca,none,0⟩:=ml;obtain⟨_,_,_,_,_,_,_,hv⟩:=ml;simp only[RC]at hv;have ez:Hid _:=l9.below ⟨dk,t3⟩ oM b2;have qb:Hid<|Boxed ao wb 162<|.slice (some ⟨I,0,none⟩) G.length wc:=Ew mb b2;have qd:Hid<|ao.ownsRow w.heap.size 161 2 (.slice (some ⟨I,0,none⟩) G.length wc) G.length<|EB G:=Fy mc b2;have mm:Hid<|JO w ao ks:=⟨c3.out.nd,λj bn=>⟨(c3.out.rL j bn).1,(b2.block j (N3.1 (c3.out.rL j bn).2).1).trans (c3.out.rL j bn).2⟩⟩;have qf:Hid<|Bg (Ag ao.cell? ar) aa rL:=Bg.on ma<|Du b2;have mo:Hid _:=mg;have qg:Hid _:=mi;have mp:Hid _:=hs;have mu:Hid _:=VQ bg ao ht;have sp:a6<ao.heap.size:=NF _ _ hu;rw[a7.out]at p7;rw[a7.out];clear ev l9 mb mc c3 mf ma l5 l8 mg mi hs b2;go_wp2_with fail
    refine rQ mu ?_;rintro e c4 ⟨⟨sq,rfl,hw⟩,fd⟩;obtain⟨c5,c6,qh,_,_,_⟩:=Ev hw;subst qh;have dj:=fd.alloc fd.size<|.cells #[.slice c5 0 c6] 29;have fe:Boxed (c4.alloc<|.cells #[.slice c5 0 c6] 29) c4.heap.size 29<|.slice c5 0 c6:=Boxed.new c4 _ _;have mv:=hw.alloc<|.cells #[.slice c5 0 c6] 29;have hy:ao.heap.size<=c4.heap.size:=fd.size;have hz:qY (c4.alloc<|.cells #[.slice c5 0 c6] 29) ao.heap.size<|.slice c5 0 c6:=mv;obtain⟨qk,mx,my,mS,m0⟩:=EL Tryz.infoK;have ql:Hid _:=mx;have qm:Hid _:=my;have qn:Hid _:=mS;have qo:Hid _:=m0;clear hw fd mu mx my mS m0 mv;go_wp2;generalize c4.alloc (.cells #[.slice c5 0 c6] 29)=sr at dj fe hz⊢;generalize c4.heap.size=cb at fe hy⊢;go_loopw [65] (λi wr=>KX ao cb bg ak i wr) (λi _=>bg-(intOf i).toNat)
    case atStart=>exact⟨0,_,_,N7 _,rfl,fe,hz,dj⟩
    case round=>
     clear fe hz dj;obtain⟨j,bi,bo,bn,rfl,dr,eB,bA⟩:=hrel;by_cases ff:j<bg;rotate_left
     .obtain rfl:j=bg:=by omega
      have m1:decide ((j:Int)<(j:Int))=false:=NM oM;have m2:ak.take j=ak:=R3 (by rw[a7.out];omega);rw[m2]at eB;have bG:=ez.out.below ⟨dk,t3⟩ oM bA;have qs:wr.frozen? ⟨t.b,t.p+7,none⟩=false:=IX bG.typ.choose_spec.choose_spec.1<|t.p+7;have c0:=Ai bA _ _ hu;have c7:=Ai bA _ _ hv;have cc:=dr.cell;have m3:cb≠t.b:=by have:=ez.out.siz;omega
      have qu:a6≠t.b:=hh;have qx:(wr.setCell ⟨t.b,t.p+7,none⟩<|.slice bi j bo).cell? ⟨cb,0,none⟩=some (.slice bi j bo):=(World.cell?_setCell_far _ _ _ _ λe=>m3<|Eq.symm e).trans cc;have qz:IntKind.i64.wrap ((j:Int)-(j:Int))=0:=(DQ oM oM).trans oM;have m5:Hid _:=bG;have hA:Hid _:=dr;have b4:Hid _:=bA;obtain⟨bk,m6⟩:∃g,Hid<|ak=[]\/bi=some ⟨g,0,none⟩:=by
       obtain⟨a9,ss,m7,_,_,dg⟩:=Ev eB;simp only[CH,true_and]at m7;rcases dg with⟨_,dm,_⟩|⟨g,az,_⟩
       .exact⟨0,.inl<|R0 (by rw[a7.out];exact dm)⟩
       .exact⟨g,.inr<|m7.1.trans az⟩
      clear m2 bG dr bA bn ff hu p8 hv;go_wp2_with fail
      obtain⟨cf,eD⟩:∃cf,Hid<|wr.setCell ⟨t.b,t.p+7,none⟩ (.slice bi j bo)=cf:=⟨_,rfl⟩;rw[eD.out];have fg:cf.heap.size=wr.heap.size:=by rw[<-eD.out,tJ]
      refine rQ (iI _ ey j hr) ?_;rintro e Z ⟨rfl,eE⟩;rw[ND,fg];have hB:Below cf.heap.size cf Z:=by rw[eE];exact((NB _ cf).alloc (rP _) _).alloc (by rw[ND];omega) _
      have hC:Z.heap.size=wr.heap.size+1+1:=by rw[eE,ND,ND,fg]
      have m8:Z.cell? ⟨wr.heap.size,0,none⟩=some (.int .i64 0):=by
       rw[eE];refine Ai ((NB _ _).alloc (rP _) _) _ _ ?_;rw[<-fg];exact rO _ _ _ _ rfl
      have m9:Z.cell? ⟨wr.heap.size+1,0,none⟩=some (.slice ey j hr):=by
       rw[eE,<-fg];exact rO _ _ _ _ (by rw[ND])
      have rs:RR w W cf ed<|t.tk F:=by rw[<-eD.out];exact m5.own (t:=t.tk F) j4 7 oM _
      have qA:W.heap.size<=wr.heap.size:=m5.siz;have qC:ao.heap.size<=wr.heap.size:=Below.size b4;have qL:ar I=true:=by rw[<-cr.out];simp[FK,Dy,Value.ownBlock]
      have q0:I≠t.b:=λe=>by rw[<-gz.out,<-e]at t3;simp[Dy,Value.ownBlock]at t3
      have q3:wb≠t.b:=λe=>by rw[e,t3]at co;cases co
      have su:I<W.heap.size:=o5;have nb:∀q,q≠t.b->cf.heap[q]? =wr.heap[q]?:=λq J=>by rw[<-eD.out];exact Cv _ _ _ _ J
      have eF:∀q,q<wr.heap.size->q≠t.b->Z.heap[q]? =wr.heap[q]?:=λq H bf=>(hB.block q oM).trans<|nb q bf;have nd:Boxed Z wb 162<|.slice (some ⟨I,0,none⟩) G.length wc:=(eF wb oM q3).trans<|Ew qb b4
      have nf:Z.ownsRow w.heap.size 161 2 (.slice (some ⟨I,0,none⟩) G.length wc) G.length<|EB G:=GD (Fy qd b4) λq J=>by
       simp[Value.ownBlock]at J;subst J;exact eF _ oM q0
      have ds:Below w.heap.size w Z:=rs.low.trans<|hB.mono rs.low.size
      have hD:JO w Z ks:=⟨mm.out.nd,λq J=>by
       obtain⟨bH,ap⟩:=mm.out.rL q J;have hE:=(N3.1 ap).1;refine⟨bH,(eF q oM λe=>?_).trans<|(Below.block b4 q hE).trans ap⟩;obtain⟨cs,l3,bu,_⟩:=ez.typ;simp only[Ft.tk]at bu;rw[e,bu]at ap;cases ap⟩
      have ra:Z.cell? ⟨cb,0,none⟩=some (.slice bi j bo):=(RE (w:=wr)<|eF cb (Boxed.lt hA) m3).trans<|Boxed.cell hA;have hG:cb<wr.heap.size:=Boxed.lt hA;have sv:ao.heap.size<=cb:=hy;have sw:W.heap.size<=ao.heap.size:=ez.siz;have rb:Hid (ak=[]\/∃b,ey=some ⟨b,0,none⟩/\b<wr.heap.size/\b≠wb/\b≠I/\∀(i:Nat) e,ak[i]? =some e->Z.cell? ⟨b,i*2,none⟩=some (.string e.n)/\Z.cell? ⟨b,i*2+1,none⟩=some (.slice e.a e.L.length e.c)):=by
       rcases mo.out with q|⟨b,q,eL⟩
       .exact .inl q
       .by_cases ng:ak=[]
        .exact .inl ng
        obtain⟨rc,sx,rf⟩:=List.exists_cons_of_ne_nil ng;have nj:=(eL 0 rc (by rw[rf];rfl)).1;have du:ar b=false:=Gg nj;have sy:b<ao.heap.size:=NF _ _<|BW _ _ _ _ nj;have ri:b≠t.b:=λe=>by rw[e,e7]at du;cases du
        refine .inr ⟨b,q,by omega,λe=>(by rw[e,kk]at du;cases du),λe=>(by rw[e,qL]at du;cases du),λi e a8=>?_⟩;have bb:∀o,Z.cell? ⟨b,o,none⟩=wr.cell? ⟨b,o,none⟩:=λo=>RE (w:=wr)<|eF b oM ri;rw[bb,bb]
        exact⟨Ai b4 _ _<|BW _ _ _ _ (eL i e a8).1,Ai b4 _ _<|BW _ _ _ _ (eL i e a8).2⟩
      obtain⟨ch,fh⟩:∃ch,Hid<|wr.heap.size=ch:=⟨_,rfl⟩;rw[fh.out]at m8 m9 hC hG qA qC;rw[fh.out];have c8:Hid<|Z.heap.size=ch+1+1:=hC;clear hC;clear eE nb c0 c7 cc qx qz qs qu m1;go_wp2_with fail
      refine(wpIn_wide (n:=0)).1 ?_;refine O7 (gf:=116) (lb:=#[.pointer<|some ⟨ch+1,0,none⟩]) rfl (enters_of func116 oK rfl) ?_;intro fn rec rn hH bp ro nn no;have dm:BJ w Z hH wb I (G++DH bk ak j)<|rec .ready none:=by
       rw[<-a7.out,nR,te];exact⟨ds.trans<|bp.mono ds.size,by(have:=c8.out;omega),λq J _ _=>bp.block q J,⟨_,Ew nd bp,Fy nf bp,.inl rfl⟩,no,nn⟩
      have dw:∀A T st,BJ w Z A wb I T st->∀q o,q<Z.heap.size->q≠wb->q≠I->A.cell? ⟨q,o,none⟩=Z.cell? ⟨q,o,none⟩:=λA T st h q o H bf ef=>RE (w:=Z)<|h.blk q H bf ef
      have ns:Hid (CallsIn Fence.wide 0 prog 116 #[.func (.yield<|Z.heap.size+1) #[] #[],.pointer<|some ⟨ch+1,0,none⟩] hH λe B=>(∃v,e=.returned v)/\BJ w Z B wb I (G++DH bk ak 0) (rec .ready none)):=gM (ch+1) ey hr ak (by rw[a7.out];exact ht) (Z.heap.size+1) (λi A=>BJ w Z A wb I (G++DH bk ak i)<|rec .ready none) hH
       (λi A h=>⟨by rw[dw A _ _ h _ _ (by have:=c8.out;omega) oM oM,a7.out];exact m9,by
        rcases rb.out with q|⟨b,q,sA,nu,cD,eL⟩
        .exact .inl q
        .refine .inr ⟨b,q,λi e a8=>?_⟩
         rw[dw A _ _ h _ _ (by have:=fh.out;have:=c8.out;omega) nu cD,dw A _ _ h _ _ (by have:=fh.out;have:=c8.out;omega) nu cD];exact eL i e a8⟩)
       (λi e A a8 nw=>by
        have nx:i<j:=by have H:=(NE.1 a8).1;rw[a7.out]at H;exact H
        have rr:bi=some ⟨bk,0,none⟩:=m6.resolve_left (λq=>by rw[q]at a8;simp at a8);have hI:=nw.keep<|(NB _ A).alloc (rP _)<|.cells #[.string e.n,.slice e.a e.L.length e.c] 169;have rt:=hI.put ds.size<|rec .busy none;have eX:=rt.keep (NB _ _).drew;obtain⟨rA,c9,ny,rC⟩:=eX.wbx;have fo:=Nl hI.lk rfl (.loop<|rec .busy none) _ _ (GS A (.string e.n) (.slice e.a e.L.length e.c) 169).2;have rK:(G++DH bk ak (i+1)).length<=2000:=by rw[N6,l7,a7.out];omega
        have nz:=dw _ _ _ eX cb 0 (by have:=c8.out;omega) oM oM;have nB:=dw _ _ _ eX ch 0 (by have:=c8.out;omega) oM oM;rw[ra,rr]at nz;rw[m8]at nB;refine MK rn nw.lk rfl ?_;gi_wp2
        refine⟨hI.lk,?_⟩;refine wpIn_block ?_;refine re (base:=w.heap.size) (wb:=wb) (g:=bk) (n:=j) (c:=bo) (i:=i) (pb:=A.heap.size) (el:=e.L.length) (ec:=e.c) (m:=(G++DH bk ak (i+1)).length) (ea:=e.a) (vw:=rA) (fl:=EB<|G++DH bk ak (i+1)) (V:=((A.alloc<|.cells #[.string e.n,.slice e.a e.L.length e.c] 169).putObj (Z.heap.size+1)<|.loop<|rec .busy none).drew) (cb:=cb) (ib:=ch) rfl (Gh rfl) ?_ ?_ ?_ ?_ ?_ c9 ny rK eX.low.size nz nB fo nx ht ?_
        .rfl
        .rfl
        .rfl
        .rfl
        .rfl
        intro a9 v9 sC hJ;have nC:=eX.push (t:=bt bk ak i) oM c9 ny rC (by rw[P4 a8];simpa [EB]using hJ.own) hJ.gro hJ.blk;refine⟨nC.lk,rfl,?_⟩;have nF:=nC.put ds.size<|rec .ready none;rw[R9,<-kD (by rw[a7.out];exact nx)]at nF;exact nF)
       (by rw[a7.out];exact dm)
      refine CallsIn.mono ns ?_;rintro e W2 ⟨⟨v,rfl⟩,hK⟩;refine⟨⟨_,rfl⟩,.inl ⟨hK.lk,?_⟩⟩;have dx:=hK.put ds.size<|rec .exhausted none;have dy:JO w (W2.putObj (Z.heap.size+1)<|.loop<|rec .exhausted none) (Z.heap.size::ks):=by
       refine⟨List.nodup_cons.2 ⟨λaA=>?_,hD.nd⟩,λq J=>?_⟩
       .have H:=(N3.1 (hD.rL _ aA).2).1
        omega
       .rcases R1.1 J with e|e
        .rw[e]
         have:=ds.size;have:=c8.out;exact⟨by omega,dx.dk⟩
        .obtain⟨bH,ap⟩:=hD.rL q e
         have hE:=(N3.1 ap).1;refine⟨bH,(dx.blk q hE (λhL=>?_) λhL=>?_).trans ap⟩
         .have H:=nd
          unfold Boxed at H;rw[hL,H]at ap;cases ap
         .rcases nf.2 with⟨bd,_⟩|⟨l4,px,kb,bd,_,az,_⟩
          .cases bd
          .simp only[CH,RV,Cj]at bd
           rw[<-bd.1.1,<-hL,ap]at az;cases az
      generalize W2.putObj (Z.heap.size+1) (.loop<|rec .exhausted none)=rS at dx dy⊢;obtain⟨rT,hM,hN,nG⟩:=dx.wbx;have rU:Hid _:=FJ.done (g:=bk) ab dT (by rw[gz.out];exact ez) qa (by rw[cr.out];exact qf) ⟨pn,po⟩ dn.symm pp (by rw[cr.out];exact qg) mp b4 eB a7 (by rw[eD.out];exact hB) m6 dx hM hN nG;have sD:1<=t.l.length:=CC.2 bY.ne;have rV:Hid<|wt (G++DH bk ak 0)<=gk-1:=by
       have H:=lU (g:=bk) mp;show _<=_;rw[SJ];omega
      have rW:gk-1<gk:=by have:=LJ t.l;omega
      have nT:JO w (rS.alloc<|.cells #[rT] 162) (Z.heap.size::ks):=⟨dy.nd,λq J=>⟨(dy.rL q J).1,(ti _ _ _ (N3.1 (dy.rL q J).2).1).trans (dy.rL q J).2⟩⟩;have c3:Hid _:=nT;obtain⟨a3,sE,rX,_,_,_⟩:=Ev hN;subst rX;have sF:=hM.cell;clear dy nT dx hM hN nG dm bp ro nn no ns dw hK;dsimp only;go_wp2;rw[<-N6];exact⟨gk-1,rW,i2 _ _ _ ⟨_,_,Z.heap.size::ks,_,_,Gh rfl,rfl,rfl,rfl,rfl,rU,c3.out,rV,by omega⟩⟩
     have m1:decide ((j:Int)<(bg:Int))=true:=NY oM;have sG:(j:Int)<(bg:Int):=by omega
     obtain⟨e,a8⟩:∃e,ak[j]? =some e:=⟨_,NA (by rw[a7.out];exact ff)⟩;obtain⟨pb,rY,n1⟩:∃b,ey=some ⟨b,0,none⟩/\∀(i:Nat) e,ak[i]? =some e->Ag ao.cell? ar ⟨b,i*2,none⟩=some (.string e.n)/\Ag ao.cell? ar ⟨b,i*2+1,none⟩=some (.slice e.a e.L.length e.c):=by
      rcases mo.out with q|q
      .rw[q]at a8;simp at a8
      .exact q
     subst rY;obtain⟨x0,hO⟩:=n1 j e a8;have x0:=Ai bA _ _<|BW _ _ _ _ x0;have hO:=Ai bA _ _<|BW _ _ _ _ hO;have rZ:Hid<|ak[j]? =some e:=a8;obtain⟨ee,fo⟩:=GS wr (.string e.n) (.slice e.a e.L.length e.c) 169;have a1:=(NB _ wr).alloc (rP _)<|.cells #[.string e.n,.slice e.a e.L.length e.c] 169;have cl:=Ew dr a1;have ce:Hid _:=Fy eB a1;have b7:=bA.trans<|a1.mono bA.size;have hP:=cl.cell;have r0:=cl.frozen;have hG:=dr.lt;clear a8 n1 eB;go_upto_region 16 with fail
     have n2:wr.heap.size<(wr.alloc<|.cells #[.string e.n,.slice e.a e.L.length e.c] 169).heap.size:=by rw[ND];omega
     obtain⟨fp,hQ⟩:∃fp,Hid<|wr.heap.size=fp:=⟨_,rfl⟩;have sH:cb≠fp:=by have H:=hQ.out;omega
     rw[hQ.out]at ee fo n2;rw[hQ.out];have r1:=cl.lt;generalize wr.alloc (.cells #[.string e.n,.slice e.a e.L.length e.c] 169)=be at ee fo cl ce b7 hP r0 n2 r1⊢;clear dr a1 bA x0 hO hG;have da:∀o:Obj,Below be.heap.size be (be.alloc o).drew:=λo=>((NB _ be).alloc (rP _) o).drew;have n3:Hid<|(be.alloc<|.cells #[.string ⟨#[]⟩,.int .i64 0,.int .i64 0,.int .i64 0,.int .i64 0,.bool false,.slice none 0 0,.string ⟨#[]⟩,.slice none 0 0] 92).drew.ownsRow ao.heap.size 92 9 (.slice bi j bo) j<|Bd<|Ha<|ak.take j:=Fy ce<|da _
     have r2:Hid (∀q u,(Bd [((⟨#[]⟩:BA),zN,zH)])[q]? =some u->(be.alloc<|.cells #[.string ⟨#[]⟩,.int .i64 0,.int .i64 0,.int .i64 0,.int .i64 0,.bool false,.slice none 0 0,.string ⟨#[]⟩,.slice none 0 0] 92).drew.cell? ((⟨be.heap.size,0,none⟩:Addr).add q)=some u):=λq u J=>by
      rw[Ef,RT];refine(rO _ _ _ _ rfl).trans ?_;simpa [Bd,Bq,zN,zH]using J
     have r3:ao.heap.size<=(be.alloc<|.cells #[.string ⟨#[]⟩,.int .i64 0,.int .i64 0,.int .i64 0,.int .i64 0,.bool false,.slice none 0 0,.string ⟨#[]⟩,.slice none 0 0] 92).drew.heap.size:=by have H:=(da<|.cells #[.string ⟨#[]⟩,.int .i64 0,.int .i64 0,.int .i64 0,.int .i64 0,.bool false,.slice none 0 0,.string ⟨#[]⟩,.slice none 0 0] 92).size;have bf:=b7.size;omega
     have sI:be.drew.cell? ⟨cb,0,none⟩=some (.slice bi j bo):=hP;have sJ:be.drew.cell? ⟨fp,0,none⟩=some (.string e.n):=ee;have sK:=Ai (da<|.cells #[.string ⟨#[]⟩,.int .i64 0,.int .i64 0,.int .i64 0,.int .i64 0,.bool false,.slice none 0 0,.string ⟨#[]⟩,.slice none 0 0] 92) _ _ hP;have sM:=Ai (da<|.cells #[.string ⟨#[]⟩,.int .i64 0,.int .i64 0,.int .i64 0,.int .i64 0,.bool false,.slice none 0 0,.string ⟨#[]⟩,.slice none 0 0] 92) _ _ ee;have sN:Hid _:=cl;have hR:Hid _:=b7;have n4:Hid<|(Ha<|ak.take j).length=j:=by show _=_;rw[oV,C3,a7.out];omega
     have sO:(j:Int)<(j:Int)+1:=by omega
     have sP:j<j+1:=by omega
     have n5:Hid<|Boxed (be.alloc<|.cells #[.string ⟨#[]⟩,.int .i64 0,.int .i64 0,.int .i64 0,.int .i64 0,.bool false,.slice none 0 0,.string ⟨#[]⟩,.slice none 0 0] 92).drew cb 29<|.slice bi j bo:=Ew cl<|da _;have r4:some cb≠(Value.slice bi j bo).ownBlock:=cl.not_row oD ce;have r5:cb<(be.alloc<|.cells #[.string ⟨#[]⟩,.int .i64 0,.int .i64 0,.int .i64 0,.int .i64 0,.bool false,.slice none 0 0,.string ⟨#[]⟩,.slice none 0 0] 92).drew.heap.size:=Boxed.lt n5;clear cl;go_region_law (first|(refine TY _ (by rfl) (.tmp 69) (.tmp 74) 29 (by rfl) ao.heap.size 92 qk zK 9 120 underlying29 ql.out qm.out qn.out qo.out rfl oD (.slice bi j bo) j (Bd<|Ha<|ak.take j) (by rfl) n3.out (some ⟨be.heap.size,0,none⟩) 1 1 (Bd [(⟨#[]⟩,zN,zH)]) (by rfl) (by rfl) (.inr ⟨_,rfl,r2.out⟩) (PC _) (by unfold maxLen;omega) oM r3 ?_;intro v9 n6 dz hS r6;obtain⟨a9,sQ,rfl,_,_,_⟩:=Ev dz;obtain⟨n7,rfl,r7,sR⟩:=Ia dz oM;obtain⟨oa,bB⟩:=gO dz n4.out;obtain⟨sS,sT,sU,sV,sW,sX,sY,sZ,s0⟩:=oa.nine;have s1:=bB<|j*9;have s2:=bB<|j*9+1;have s3:=bB<|j*9+2;have s4:=bB<|j*9+3;have s5:=bB<|j*9+4;have s6:=bB<|j*9+5;have s7:=bB<|j*9+6;have s8:=bB<|j*9+7;have s9:=bB<|j*9+8;have c9:Boxed n6 cb 29<|.slice bi j bo:=(hS.block cb r5 r4).trans n5.out;have ob:cb≠n7:=λq=>c9.not_row oD dz (by rw[q];rfl);have ta:n7≠cb:=λq=>ob q.symm;have tb:=c9.cell;have tc:=c9.frozen;have og:Below ao.heap.size ao n6:=(hR.out.trans<|(da _).mono hR.out.size).grown hS (by have H:=hR.out.size;have bf:=(da<|.cells #[.string ⟨#[]⟩,.int .i64 0,.int .i64 0,.int .i64 0,.int .i64 0,.bool false,.slice none 0 0,.string ⟨#[]⟩,.slice none 0 0] 92).size;omega) λq J=>(tK n3.out q J).1;have hT:=rD (nm:=e.n) c9 dz n4.out og ob hy r7;rw[<-jO rZ.out]at hT;simp only[Hn]at hT;obtain⟨fs,ft⟩:=hT;have r8:Hid<|KX ao cb bg ak (.int .i64<|(j:Int)+1) _:=KX.next ff fs.1 fs.2.1 fs.2.2;have b4:Hid<|KX ao cb bg ak (.int .i64<|(j:Int)+1) _:=KX.next ff ft.1 ft.2.1 ft.2.2;clear fs ft dz hS r6 og oa bB))
     all_goals
      go_wp2;go_roundw
      case rel=>
       first|with_reducible exact r8.out|with_reducible exact b4.out
      case measure=>(simp[intOf];try omega)
theorem oG:∀{ks:Ay},(∀p∈ks,p.1.size<=255/\AI p.2)->Co ks:=by intro ks;induction ks<;>grind [Co]
theorem Xc(g:BA->Nd):∀N:List BA,cntL (N.map λnm=>(nm,g nm))=(N.map λnm=>cnt<|g nm).sum
 |[]=>rfl
 |n::N=>by
  rw[CB,CB,List.sum_cons,cntL,Xc g N]
theorem lT{g h:BA->Nat}:∀{N:List BA},(∀n∈N,g n<=h n)->(N.map g).sum<=(N.map h).sum:=by intro N;induction N<;>grind
theorem gG(x:Nd)(ks:Ay):cnt (x.with ks)=cntL ks+1:=by
 obtain⟨k,m,u,g,o,rL,d,G⟩:=x;rw[Nd.with,cnt]
theorem lv{y:Nd}(h:AI x)(G:Ek nm x=some y):nm.size<=255:=by
 rw[LR]at G;obtain⟨i,H⟩:=R7<|MJ<|O8 G;obtain⟨k,m,u,g,o,rL,d,ks⟩:=x;rw[AI]at h;exact(MV h.2.2 H).1
theorem aj(c:AR):Am c zN zH:=Cs.2 ⟨.inl rfl,⟨rP _,by decide⟩,⟨rP _,by decide⟩,.inl rfl⟩
def rR:Bc->Nd
 |[]=>zN
 |q::_=>q.1
def rE:Bc->Bool
 |[]=>false
 |_::_=>true
theorem eC(J:∀k,S k=true->k<w.heap.size){a:Option Addr}{xs:List Nd}(hx:CP (Ag w.cell? S) a xs)(G:GE xs){fv:Value}{F:Nd->Nat->Nd}(hF:Qf w fv F):
 Calls prog 40 #[.slice a xs.length cap,fv] w λe w'=>(∃h,e=.returned (.tuple #[At (Dx F<|A8<|A5 xs) h,.bool<|rE<|A8<|A5 xs])/\Am (Ag w'.cell? S) (Dx F<|A8<|A5 xs) h)/\Below w.heap.size w w':=by
 refine rQ (iL (cap:=cap) J hx G.len G.small G.seen hF) λe w' ⟨h,hB⟩=>⟨?_,hB⟩;rcases h with⟨H,I⟩|⟨H,hd,I,O⟩
 .rw[H];exact⟨zH,I,aj _⟩
 .refine⟨hd,?_,O⟩
  rw[I];cases ht:A8 (A5 xs)with
  |nil=>exact absurd ht H
  |cons q r=>rfl
theorem iV(Z:∀k,S k=true->k<W.heap.size)(ab:Am (Ag W.cell? S) x h)(J:A7 x)(_hcnt:cnt x<=1000)(hb:x.kids=[]/\h.ak=none/\h.ck=0):
 Calls prog 28 #[At x h] W λe O=>(∃h',e=.returned (At x h')/\Am (Ag O.cell? S) x h'/\(h'.ak=none/\h'.ck=0))/\Below W.heap.size W O:=by
 obtain⟨k,m,u,g,o,rL,d,ks⟩:=x;obtain⟨aa,ca,ad,ck⟩:=h;obtain⟨G,H,I⟩:=hb;have G:ks=[]:=G;have H:ad=none:=H;have I:ck=0:=I;subst G H I;obtain⟨ak,al,_,_⟩:=Cs.1 ab;rw[A7]at J;go_call Rx (k:=k) (m:=m) (u:=u) (g:=g) (o:=o) (d:=d) (ca:=ca) Z ak J.1 as e w' ⟨a2,c2,rfl,l1,l2,hk,hb⟩
 exact⟨⟨⟨a2,c2,none,0⟩,rfl,Cs.2 ⟨hk,⟨l1,l2⟩,⟨rP _,by show(0:Nat)<=_;omega⟩,.inl rfl⟩,rfl,rfl⟩,hb⟩
abbrev rJ:=JG λh=>h.ak=none/\h.ck=0
theorem cv(H:∀k,S k=true->k<W.heap.size)(I:Am (Ag W.cell? S) x h)(J:A7 x)(O:cnt x<=1000)(hid:FL x)(G:x.kids=[]/\h.ak=none/\h.ck=0){M:Df}(Z:EN W M):
 Calls prog 42 #[M.v,At x h] W λe ab=>rJ W ab S e<|BH false M.us M.gs x:=
 YP (.inr ⟨rfl,rfl⟩) _ H (λ_ _ _ ad ak al ao ap=>iV ad ak al ao ⟨ap.trans G.1,G.2⟩) I J O hid Z
def fW(us gs:List Rg):Nd->Nat->Nd:=λx ly=>if 0<ly then x else(BH false us gs x).getD zN
theorem nQ(h:BH false us gs x=none):fW us gs x 0=zN:=by unfold fW;rw[NO oM,h];rfl
theorem oL{y:Nd}(h:BH false us gs x=some y):fW us gs x 0=y:=by unfold fW;rw[NO oM,h];rfl
theorem pM{ly:Nat}(h:0<ly):fW us gs x ly=x:=by unfold fW;rw[NS h]
theorem Yd{G:World}{e:Ending}(Z:Am (Ag G.cell? S) x h)(hb:h.ak=none/\h.ck=0)(ab:x.kids=[])(J:A7 x)(ad:e=.returned (At x h))(ak:Below W.heap.size W G):Mb x S W e G:=by
 obtain⟨k,m,u,g,o,rL,d,ks⟩:=x;obtain⟨aa,ca,al,ck⟩:=h;obtain⟨H,I⟩:=hb;have ao:ks=[]:=ab;have H:al=none:=H;have I:ck=0:=I;subst ao H I;obtain⟨ap,O,_,_⟩:=Cs.1 Z;rw[A7]at J;exact⟨k,m,u,g,o,rL,d,aa,ca,rfl,ad,O.1,O.2,J.1,ap,ak⟩
theorem dB(cl:∀k,S k=true->k<W.heap.size){k m u g:Int}{o:Bool}{rL:List Kv}{d:BA}{aa:Option Addr}{ca ly pb:Nat}(co:A4 u)(cr:A4 g)(cx:rL.length<=ca)(cD:ca<=9223372036854775807)(cF:rL.length<=1000)(c3:Bg (Ag W.cell? S) aa rL)
 {M:Df} (c4:EN W M) (c5:Ce W pb 0<|pO b 0) (c6:Ce W b 0<|.slice M.ua M.us.length M.uc) (aw:Ce W b 1<|.slice M.ga M.gs.length M.gc):
 Calls prog 41 #[bv k m u g o rL d aa ca,iN ly,pO pb 0] W (Mb (fW M.us M.gs (.mk k m u g o rL d []) ly) S W):=by
 have c8:Am (Ag W.cell? S) (.mk k m u g o rL d []) ⟨aa,ca,none,0⟩:=Cs.2 ⟨c3,⟨cx,cD⟩,⟨rP _,by show(0:Nat)<=_;omega⟩,.inl rfl⟩;have c9:A7<|.mk k m u g o rL d []:=by rw[A7];exact⟨cF,by simp,by rw[EO];trivial⟩
 have bG:Below W.heap.size W<|W.alloc<|Aw k m u g o rL d [] ⟨aa,ca,none,0⟩:=(NB _ _).alloc (rP _) _;have ao:=bG.alloc bG.size AO;have da:Below (W.alloc<|Aw k m u g o rL d [] ⟨aa,ca,none,0⟩).heap.size (W.alloc<|Aw k m u g o rL d [] ⟨aa,ca,none,0⟩)<|(W.alloc<|Aw k m u g o rL d [] ⟨aa,ca,none,0⟩).alloc AO:=(NB _ _).alloc (rP _) _;have bb:=(AC.new W k m u g o rL d [] ⟨aa,ca,none,0⟩).below da;have a7:=AC.zero<|W.alloc<|Aw k m u g o rL d [] ⟨aa,ca,none,0⟩;have dd:((W.alloc<|Aw k m u g o rL d [] ⟨aa,ca,none,0⟩).alloc AO).heap.size=W.heap.size+1+1:=(ND _ _).trans<|RX (·+1)<|ND _ _;have de:(W.alloc<|Aw k m u g o rL d [] ⟨aa,ca,none,0⟩).heap.size=W.heap.size+1:=ND _ _;rw[de]at a7;have cp:=Ai ao _ _ c5;have c0:=Ai ao _ _ c6;have c1:=Ai ao _ _ aw;have dg:=c4.below ao;have bH:Hid (Am (Ag ((W.alloc<|Aw k m u g o rL d [] ⟨aa,ca,none,0⟩).alloc AO).cell? (λq=>(q==W.heap.size||q==W.heap.size+1)||S q)) (.mk k m u g o rL d []) ⟨aa,ca,none,0⟩):=c8.on (Bv λq ap al=>⟨by simp[al];omega,ao.block q ap⟩);have dj:Hid (∀k,S k=true->k<W.heap.size):=cl;have bd:Hid<|A7<|.mk k m u g o rL d []:=c9;have dk:Hid<|EN _ M:=dg;have dm:Hid<|A4 u/\A4 g:=⟨co,cr⟩;go_enter func41,ntmps41;refine wp_mono (Q:=Tr _) ?_ iO;go_upto_region 1 with fail
 generalize(W.alloc<|Aw k m u g o rL d [] ⟨aa,ca,none,0⟩).alloc AO=ak at*;by_cases dn:0<ly
 .have be:=hid (pM (us:=M.us) (gs:=M.gs) (x:=.mk k m u g o rL d []) dn)
  have ej:((ly:Int)==0)=false:=beq_eq_false_iff_ne.2 oM;have bY:=a7.store (.mk k m u g o rL d []) ⟨aa,ca,none,0⟩;have b3:Az (W.heap.size+1) ak<|As ak (W.heap.size+1) (.mk k m u g o rL d []) ⟨aa,ca,none,0⟩:=Cb;have b0:=ao.trans<|b3.below (B:=W.heap.size) oM ao.size
  have b1:Hid<|Am (Ag (As ak (W.heap.size+1) (.mk k m u g o rL d []) ⟨aa,ca,none,0⟩).cell? S) (.mk k m u g o rL d []) ⟨aa,ca,none,0⟩:=bH.on (Bv λq ap al=>by
   simp at al;exact⟨al.2,b3.block q ap al.1.2⟩)
  obtain⟨⟨f0,f1,f2,f3,f4,f5,f6,f7⟩,bf⟩:=bb;obtain⟨⟨z0,dp,dr,z3,z4,z5,ds,du⟩,bg⟩:=a7;simp only[RC]at f7;obtain⟨dw,dx,dy,dz,dT,d0,d1,d2⟩:=f8 bg;go_wp2;obtain⟨az,aA⟩:∃az,Hid<|As ak (W.heap.size+1) (.mk k m u g o rL d []) ⟨aa,ca,none,0⟩=az:=⟨_,rfl⟩;rw[aA.out]at bY b0 b1;have a1:=aA.out;simp only[As,RC]at a1;rw[a1];obtain⟨bi,bk,bl,bn,bo,bp,bq,a6⟩:=bY.1;simp only[RC]at a6;exact V4<|NZ (v:=bv k m u g o rL d aa ca) (by simp[results,results41,go_sem,bi,bk,bl,bn,bo,bp,bq,a6]) rfl (by rw[be.out];exact Yd b1 ⟨rfl,rfl⟩ rfl bd rfl b0)
 .have d3:ly=0:=by omega
  subst d3;have d4:cnt (.mk k m u g o rL d [])<=1000:=by rw[cnt,cntL];omega
  have d5:Hid (Calls prog 42 #[.agg #[.slice M.ua M.us.length M.uc,.slice M.ga M.gs.length M.gc],.agg #[.int .i64 k,.int .i64 m,.int .i64 u,.int .i64 g,.bool o,.slice aa rL.length ca,.string d,.slice none 0 0]] ak.drew λe bs=>∃(G H u2 I:Int) (J:Bool) (O:List Kv) (Z:BA) (ab:Option Addr) (ad:Nat) (b2:Value),e=.returned (.tuple #[bv G H u2 I J O Z ab ad,b2])/\fW M.us M.gs (.mk k m u g o rL d []) 0=.mk G H u2 I J O Z []/\A7 (.mk G H u2 I J O Z [])/\Am (Ag bs.cell? (λq=>(q==W.heap.size||q==W.heap.size+1)||S q)) (.mk G H u2 I J O Z []) ⟨ab,ad,none,0⟩/\Below ak.heap.size ak bs):=by
   have bu:=(NB ak.heap.size ak).drew
   refine rQ (cv (W:=ak.drew) (S:=λq=>(q==W.heap.size||q==W.heap.size+1)||S q) (M:=M) (λq ap=>by
    show q<ak.heap.size;rw[dd];simp at ap;rcases ap with(e|e)|e
    .omega
    .omega
    .have:=dj.out q e;omega) bH bd d4 dm ⟨rfl,rfl,rfl⟩<|dk.out.below bu) λe bs a8=>?_
   cases hox:BH false M.us M.gs (.mk k m u g o rL d [])with
   |none=>
    rw[hox]at a8;obtain⟨rfl,bx⟩:=a8;exact⟨0,0,0,0,false,[],⟨#[]⟩,none,0,_,rfl,nQ hox,by rw[A7];exact⟨N7 _,N7 _,by rw[EO];trivial⟩,aj _,bu.trans bx⟩
   |some y=>
    rw[hox]at a8;obtain⟨⟨hx,rfl,bA,aw,bB⟩,bx⟩:=a8;have bC:=(LT hox).2;have d6:A7 y:=by
     have ba:=hox;rw[BH]at ba;split at ba
     .cases ba;exact XX bd
     .cases ba
    obtain⟨G,H,u2,I,J,O,Z,d7⟩:=y;replace bC:d7=[]:=bC;subst bC;obtain⟨ab,ad,d8,d9⟩:=hx;replace aw:d8=none:=aw;replace bB:d9=0:=bB;subst aw bB;exact⟨G,H,u2,I,J,O,Z,ab,ad,_,rfl,oL hox,d6,bA,bu.trans bx⟩
  obtain⟨⟨f0,f1,f2,f3,f4,f5,f6,f7⟩,bf⟩:=id bb;simp only[RC]at f7;go_upto_region 2 with fail
  go_region_with (first|(go_at_call 42;(refine rQ d5.out ?_);rintro e ar ⟨G,H,u2,I,J,O,Z,ab,ad,b2,rfl,eb,ed,bA,bF⟩;have be:=hid eb;have b4:=a7.below bF;have ee:=bb.below bF;have b6:=ao.trans<|bF.mono ao.size;have b5:Az W.heap.size ar<|As ar W.heap.size (.mk G H u2 I J O Z []) ⟨ab,ad,none,0⟩:=Cb;have ef:=b4.but b5 oM;have b7:=ef.store (.mk G H u2 I J O Z []) ⟨ab,ad,none,0⟩;have b9:Az (W.heap.size+1) (As ar W.heap.size (.mk G H u2 I J O Z []) ⟨ab,ad,none,0⟩)<|As (As ar W.heap.size (.mk G H u2 I J O Z []) ⟨ab,ad,none,0⟩) (W.heap.size+1) (.mk G H u2 I J O Z []) ⟨ab,ad,none,0⟩:=Cb;have ce:=b6.trans<|b5.below (B:=W.heap.size) (rP _) b6.size;have cf:=ce.trans<|b9.below (B:=W.heap.size) oM ce.size;have ch:Hid<|Am (Ag (As (As ar W.heap.size (.mk G H u2 I J O Z []) ⟨ab,ad,none,0⟩) (W.heap.size+1) (.mk G H u2 I J O Z []) ⟨ab,ad,none,0⟩).cell? S) (.mk G H u2 I J O Z []) ⟨ab,ad,none,0⟩:=bA.on (Bv λq ap al=>(by simp at al;exact⟨al.2,(b9.block q (N1 ap b5.size) al.1.2).trans<|b5.block q ap al.1.1⟩));have eg:=hid ed;obtain⟨⟨f0,f1,f2,f3,f4,f5,f6,f7⟩,bf⟩:=ee;obtain⟨⟨z0,dp,dr,z3,z4,z5,ds,du⟩,bg⟩:=b4;obtain⟨dw,dx,dy,dz,dT,d0,d1,d2⟩:=f8 bg;obtain⟨x0,ek,em,en,eo,ep,eq,er⟩:=f8 bf;rw[show bv G H u2 I J O Z ab ad=.agg #[.int .i64 G,.int .i64 H,.int .i64 u2,.int .i64 I,.bool J,.slice ab O.length ad,.string Z,.slice none 0 0]from rfl]))
  all_goals
   go_wp2;obtain⟨az,aA⟩:∃az,Hid<|As (As ar W.heap.size (.mk G H u2 I J O Z []) ⟨ab,ad,none,0⟩) (W.heap.size+1) (.mk G H u2 I J O Z []) ⟨ab,ad,none,0⟩=az:=⟨_,rfl⟩;rw[aA.out]at b7 cf ch;have a1:=aA.out;simp only[As,RC]at a1;rw[a1];obtain⟨bi,bk,bl,bn,bo,bp,bq,a6⟩:=b7.1;simp only[RC]at a6;exact V4<|NZ (v:=bv G H u2 I J O Z ab ad) (by simp[results,results41,go_sem,bi,bk,bl,bn,bo,bp,bq,a6]) rfl (by rw[be.out];exact Yd (h:=⟨ab,ad,none,0⟩) ch ⟨rfl,rfl⟩ rfl eg rfl cf)
theorem ki{pb:Nat}{M:Df}(H:EN w M)(I:Ce w pb 0<|pO b 0)(J:Ce w b 0<|.slice M.ua M.us.length M.uc)(O:Ce w b 1<|.slice M.ga M.gs.length M.gc):
 Qf w (.func (.func 41) #[] #[pO pb 0]) (fW M.us M.gs):=
 .inr ⟨41,#[pO pb 0],rfl,λargs w=>by kernel_rfl,λW S k m u g o rL d aa ca ly Z ab G ad ak al ao ap=>dB ad Z ab ak al ao ap (H.below G) (Ai G _ _ I) (Ai G _ _ J)<|Ai G _ _ O⟩
theorem V7{B:Bx}{x0:Nd}{rM:List Nd}(h:A6 w b B)(ao:BN B x0 rM):
 Calls prog 19 #[pO b 0] w λe w'=>(∃G,e=.returned (At (Dx (fW B.M.us B.M.gs)<|A8<|A5 B.xs) G)/\Am w'.cell? (Dx (fW B.M.us B.M.gs)<|A8<|A5 B.xs) G)/\Below w.heap.size w w':=by
 have bi:GE B.xs:=by rw[ao.xs];exact ao.sz.ok oM
 have ap:Below w.heap.size w<|w.alloc<|.cells #[pO b 0] 73:=(NB _ _).alloc (rP _) _;have ak:=ap.alloc ap.size AO;have ar:(w.alloc<|.cells #[pO b 0] 73).heap.size=w.heap.size+1:=ND _ _;have bk:((w.alloc<|.cells #[pO b 0] 73).alloc AO).heap.size=w.heap.size+1+1:=(ND _ _).trans<|RX (·+1) ar;have R:=AC.zero<|w.alloc<|.cells #[pO b 0] 73;have cp:Ce ((w.alloc<|.cells #[pO b 0] 73).alloc AO) w.heap.size 0<|pO b 0:=Ai ((NB _ _).alloc (rP _) _) _ _<|rO _ _ _ _ rfl;rw[ar]at R;have c2:=Ai ak _ _ h.cells.2.2.1;have hF:=ki (h.maps.below ak) cp (Ai ak _ _ h.cells.1)<|Ai ak _ _ h.cells.2.1;have hx:CP (Ag ((w.alloc<|.cells #[pO b 0] 73).alloc AO).cell? λq=>q==w.heap.size+1) B.la B.xs:=h.lay.on (MO ak λj e=>by simp;omega);have aw:=eC (cap:=B.lc) (λq e=>by rw[bk];simp at e;omega) hx bi hF;obtain⟨Y,bl⟩:∃Y,Hid<|Dx (fW B.M.us B.M.gs) (A8<|A5 B.xs)=Y:=⟨_,rfl⟩;rw[bl.out]at aw⊢;have bn:=hid aw;have bH:=h.lt;obtain⟨H,I,u2,J,O,Z,ab,ad⟩:=Y;go_enter func19,ntmps19;go_upto_region 1 with fail
 generalize(w.alloc<|.cells #[pO b 0] 73).alloc AO=bY at*;go_wp2_with fail
 go_call bn as e w4 ⟨⟨G,rfl,hN4⟩,hB4⟩
 rw[show At (.mk H I u2 J O Z ab ad) G=Ba H I u2 J O Z ab ad G from rfl];have az:=R.below hB4;have aA:=ak.trans<|hB4.mono ak.size;have al:Below w4.heap.size w4<|w4.alloc<|Aw H I u2 J O Z ab ad G:=(NB _ _).alloc (rP _) _;have Q:=az.below al;have b0:w4.heap.size≠w.heap.size+1:=by have:=hB4.size;omega
 have a1:=Q.store (.mk H I u2 J O Z ab ad) G;have a6:Az (w.heap.size+1) (w4.alloc<|Aw H I u2 J O Z ab ad G)<|As (w4.alloc<|Aw H I u2 J O Z ab ad G) (w.heap.size+1) (.mk H I u2 J O Z ab ad) G:=Cb;have a7:=aA.trans<|al.mono aA.size;have a8:=a7.trans<|a6.below (B:=w.heap.size) oM a7.size;have ba:Hid<|Am (As (w4.alloc<|Aw H I u2 J O Z ab ad G) (w.heap.size+1) (.mk H I u2 J O Z ab ad) G).cell? (.mk H I u2 J O Z ab ad) G:=hN4.on λq v e=>by
  have bb:=BW _ _ _ _ e;have bo:=Gg e;have bd:=NF _ _ bb;have bp:=N1 bd al.size;exact(a6.cell bp (by simpa using bo)).trans ((al.cell bd).trans bb)
 obtain⟨⟨f0,f1,f2,f3,f4,f5,f6,f7⟩,b1⟩:=az;obtain⟨⟨z0,b2,b4,z3,z4,z5,b6,b7⟩,bq⟩:=Q;obtain⟨b9,ce,cf,ch,cl,co,cr,cx⟩:=f8 bq;go_wp2;obtain⟨be,bf⟩:∃be,Hid<|As (w4.alloc<|Aw H I u2 J O Z ab ad G) (w.heap.size+1) (.mk H I u2 J O Z ab ad) G=be:=⟨_,rfl⟩;rw[bf.out]at a1 a8 ba;have bg:=bf.out;simp only[As,Aw]at bg;rw[bg];obtain⟨bs,bu,bx,bA,bB,bC,bF,bG⟩:=a1.1;exact NZ (v:=At (.mk H I u2 J O Z ab ad) G) (by simp[results,results19,go_sem,At,bs,bu,bx,bA,bB,bC,bF,bG]) rfl ⟨⟨G,rfl,ba⟩,a8⟩
def J5(w:World)(H:Nat->Option Nat)(X:Nat->Nd):Prop:=∀k G,H k=some G->∃b B x0 rM,w.cell? (aD G 4)=some (pO b 0)/\A6 w b B/\BN B x0 rM/\Dx (fW B.M.us B.M.gs) (A8<|A5 B.xs)=X k/\AI (X k)/\cnt (X k)<=1000/\(Cy<|X k).length<=60000000
theorem ip{hb db I N Z m:Nat}{L H:Nat->Option Nat}{Q R:Nat->Pl}{X:Nat->Nd}(h:HK w hb db I (64*N) N Z m L H)(l:Cc w hb db I N L H Q R)(ar:m<=600000)(aw:J5 w H X)(id:Int):
 Calls prog 24 #[pO hb 0,iN id] w λe w'=>((∃i k J:Nat,∃p,i<5/\id=i/\H i≠none/\k<5/\L k=none/\e=.returned (.tuple #[iN k,.nilIface])/\Dj false (X i)=0/\(∃ak,ak<=m+22000/\HK w' hb db I (64*N) N (1-Z) ak (AK L k<|some J) H)/\Cc w' hb db I N (AK L k<|some J) H (AK Q k p) R/\(p.l.length:Int)=EP (X i)/\Jd w' J (X i)/\w.heap.size<=J/\∀a,p.a=some a->w.heap.size<=a.block)\/(∃E,E≠0/\e=.returned (.tuple #[iN 0,Ao E]))/\HK w' hb db I (64*N) N Z m L H/\Cc w' hb db I N L H Q R)/\Mv (λb=>b=hb\/b=db\/b=I) w w':=by
 have az:=(Kw h id).1;have al:=hid h;have ao:=hid l;have aA:=hid aw;go_enter func24,ntmps24;go_wp2_with fail
 go_call az as e w' ⟨⟨i,gb,hi,rfl,hg,rfl⟩|⟨hg,rfl⟩,rfl⟩
 .obtain⟨b,B,x0,rM,cb,a1,a6,a7,a8,ba,bb⟩:=aA i gb hg
  have bd:=hid hg;have ap:=hid<|V7 a1 a6;rw[a7]at ap;have ab:Hid<|_/\_/\_:=⟨a8,ba,bb⟩;go_wp2_with fail
  go_call ap as e w2 ⟨⟨hy,rfl,hN⟩,hB2⟩
  have O:=hid hB2;have be:=hid (TZ (al.below hB2) (ao.mv (Mv.of hB2) (S:=λ_=>False) λ_ e=>e.elim) ar hN ab.1 ab.2.1 ab.2.2);go_wp2_with fail
  go_call be as e w3 ⟨⟨k,J,p,hk,hLk,rfl,hP⟩|⟨⟨E,hE,rfl⟩,hP⟩,hM⟩
  .have G:=hid hP
   have ad:=hid<|(Mv.of O).trans hM;go_wp2;go_ret2;exact⟨.inl ⟨i,k,J,p,hi,rfl,by rw[bd.out];simp,hk,hLk,rfl,G.1,G.2.1,G.2.2.1,G.2.2.2.1,G.2.2.2.2.1,Rz O.size G.2.2.2.2.2.1,λa e=>Rz O.size<|G.2.2.2.2.2.2 a e⟩,ad.out⟩
  .have G:=hid hP
   have ad:=hid<|(Mv.of O).trans hM;rw[AP (n:=E) rfl hE];go_wp2;go_ret2;exact⟨.inr ⟨⟨E,hE,RX (λv=>Ending.returned<|.tuple #[iN 0,v]) (AP (n:=E) rfl hE).symm⟩,G⟩,ad.out⟩
 .rw[show Ao 5=.iface 101 (iN 5)from rfl]
  go_wp2;go_ret2;exact⟨.inr ⟨⟨5,by decide,rfl⟩,al,ao⟩,Mv.refl _ _⟩
end Go.Proofs.YtchpdmjlicmdaaaGreatDoor
