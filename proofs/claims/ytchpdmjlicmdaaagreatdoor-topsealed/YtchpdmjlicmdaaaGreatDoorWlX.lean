/- Part: Wl Mi Mj Uc Ud Ub Ida Nd Uf Mk Ml. -/
import Derived.Test.YtchpdmjlicmdaaaGreatDoorWpX
set_option maxRecDepth 100000
set_option maxHeartbeats 16000000
namespace Go.Proofs.YtchpdmjlicmdaaaGreatDoor
open Go.RowKit Go.Proofs.Tryz
variable {G W w:World}{S:Nat->Bool}{x y z:Nd}{i n:Nat}{ks:Ay}{h:Hd}{c:AR}{xs:List Nd}{ry:List BA}{l:List (Nd×Nat)}{H g k u:Int}{d m:BA}{o:Bool}{rL:List Kv}{R:Option Nd}{gs us:List Rg}
theorem MO{w':World}(hb:Below w.heap.size w w')(I:∀k,k<w.heap.size->S k=false):AW w.cell?<|Ag w'.cell? S:=by
 intro q v G;have H:q.block<w.heap.size:=bL G;rw[CV<|I _ H];exact(hb.cell H).trans G
theorem Eo.more{wr:World}{G:Nat}{I:Hd}{v:Value}{P Q:List Pn}{e:Pn}(h:Eo W wr S G x I v P Q)(J:NJ (G+2) wr (E0 G v S) e):Eo W wr S G x I v P (e::Q):=
 ⟨h.row,h.box,h.res,h.tree,λq O=>by rcases R1.1 O with H|H;exact H▸J;exact h.pend q H,h.low,h.sz⟩
theorem Tryz.infoS:(prog.info? 29).map (λi=>(i.zero,i.size,i.bytes))=some (some<|nL,1,24):=by kernel_rfl
theorem Eo.start{H:Nat}{O:Hd}{I:Option Addr}{ck:Nat}(ad:W.heap.size=H)(ak:ks.length=n)(al:Cm G H x O)(Z:AC G (H+1) zN zH)(ao:Am (Ag G.cell? (λk=>(k==H||k==H+1)||S k)) x O)(ab:Below W.heap.size W G)
 (ap:FQ (Ag G.cell? (λk=>(k==H||k==H+1)||S k)) I ks) (hF:I2 (H+2) G I ks) (ar:EO ks) (aw:ks.length<=1000):
 Eo W (G.alloc<|.cells #[.slice I n ck] 29) S H x O (sL G.heap.size 0 1 1) [⟨I,ck,ks⟩] [⟨I,ck,ks⟩]:=by
 have a1:=Z.1.lt;have hb:Below G.heap.size G<|G.alloc<|.cells #[.slice I n ck] 29:=bN;have step:AW (Ag G.cell? (λk=>(k==H||k==H+1)||S k))<|Ag (G.alloc<|.cells #[.slice I n ck] 29).cell?<|E0 H (sL G.heap.size 0 1 1) S:=by
  refine Bv λk az J=>⟨KI.2 ⟨by simp at J;exact J.1.2,?_,by simp at J;exact J.2⟩,hb.block k az⟩;grind [Value.ownBlock]
 refine⟨⟨by simp[pv],.inr ⟨G.heap.size,1,#[.slice I n ck],rfl,by omega,tM G _,by simp,by decide,rfl,by simp[pv,ak]⟩⟩,al.below hb,Z.below hb,ao.on step,?_,ab.trans<|hb.mono ab.size,ad⟩;intro e aA;have:e=⟨I,ck,ks⟩:=by simpa using aA
 subst this;exact⟨ap.on step,hF.below hb,ar,aw⟩
theorem J0(b6:∀k,S k=true->k<W.heap.size)(eg:Am (Ag W.cell? S) x h)(b7:A7 x)(ej:cnt x<=1000):
 Calls prog 28 #[At x h] W λe ao=>(∃h',e=.returned (At x h')/\Am (Ag ao.cell? S) x h')/\Below W.heap.size W ao:=by
 obtain⟨k,m,u,g,o,rL,d,ks⟩:=x;have bq:=b7;rw[A7]at bq;rw[cnt]at ej;have ek:=AC.new W k m u g o rL d ks h;have b9:Below W.heap.size W<|W.alloc<|Aw k m u g o rL d ks h:=bN;have ce:=AC.zero<|W.alloc<|Aw k m u g o rL d ks h;rw[ND]at ce;have cf:=ek.below<|(NB _ _).alloc (rP _) AO;have bs:Below W.heap.size W<|(W.alloc<|Aw k m u g o rL d ks h).alloc AO:=b9.alloc b9.size _;have bu:W.heap.size+2=((W.alloc<|Aw k m u g o rL d ks h).alloc AO).heap.size:=by simp
 have em:Hid (∀O,Below ((W.alloc<|Aw k m u g o rL d ks h).alloc AO).heap.size ((W.alloc<|Aw k m u g o rL d ks h).alloc AO) O->cL 64 #[At (.mk k m u g o rL d ks) h] O λe ao=>(∃h',e=.returned (At (.mk k m u g o rL d ks) h')/\Am (Ag ao.cell? (λk=>(k==W.heap.size||k==W.heap.size+1)||S k)) (.mk k m u g o rL d ks) h'/\I2 O.heap.size ao h'.ak ks)/\Below O.heap.size O ao):=
  λO bx=>VX (S:=λk=>(k==W.heap.size||k==W.heap.size+1)||S k) (λk Z=>by
   rw[<-bu];simp at Z;rcases Z with Z|Z
   .omega
   .have:=b6 k Z;omega) (eg.on (Bv λk Z ap=>⟨by simp[ap];omega,bs.block k Z⟩)) O bx b7
 have en:=hid b6;show cL 28 #[(Ba k m u g o rL d ks h)] _ _;obtain⟨⟨ch,cl,co,cr,cx,cD,cF,c3⟩,eo⟩:=id cf;go_enter func28,ntmps28;go_wp2_with fail
 go_call em _ (NB _ _) as e w2 ⟨⟨h0,rfl,hT2,hF2⟩,b2⟩
 rw[<-bu]at hF2;have bA:=cf.below b2;have c4:=ce.below b2;have c5:=bs.trans<|b2.mono bs.size;have ep:W.heap.size+2<=w2.heap.size:=by rw[bu];exact b2.size
 generalize eq:W.heap.size=G at bA c4 hT2 hF2 ep⊢
 have c6:=bA.store (.mk k m u g o rL d ks) h0;have b3:Az G w2<|As w2 G (.mk k m u g o rL d ks) h0:=Cb;have er:=c4.but b3 oM;have es:=c5.trans<|b3.below (B:=W.heap.size) oM c5.size;have step:AW (Ag w2.cell? (λk=>(k==G||k==G+1)||S k)) (Ag (As w2 G (.mk k m u g o rL d ks) h0).cell? (λk=>(k==G||k==G+1)||S k)):=Bv λq ak ap=>⟨ap,b3.block q ak (by simp at ap;exact ap.1.1)⟩;have c8:=hT2.on step
 have eu:I2 (G+2) (As w2 G (.mk k m u g o rL d ks) h0) h0.ak ks:=by
  rcases hF2 with e|⟨bf,al,bB,bC,bF⟩
  .exact .inl e
  .exact .inr ⟨bf,al,bB,by have:=b3.size;omega,λj=>(b3.frozen (p:=(aD bf j)) bC (by show bf≠G;omega)).trans<|bF j⟩
 have ad:=Eo.start (ck:=h0.ck) eq rfl c6.1 er c8 es (Cs.1 c8).2.2.2 eu bq.2.2 bq.2.1;obtain⟨⟨ch,cl,co,cr,cx,cD,cF,c3⟩,eo⟩:=id bA;obtain⟨⟨z0,c9,da,z3,z4,z5,dd,de⟩,dg⟩:=id c6;have bG:At (.mk k m u g o rL d ks) h0=(Ba k m u g o rL d ks h0):=rfl;rw[bG];generalize ev:As w2 G (.mk k m u g o rL d ks) h0=dj at ad z0 c9 da z3 z4 z5 dd de dg;simp only[As]at ev;go_wp2;generalize dj.alloc (.cells #[.slice h0.ak ks.length h0.ck] 29)=go at ad⊢;generalize dj.heap.size=bg at ad⊢;go_loopg [3] (1+2*cntL ks) (λgk v wr=>∃P:List Pn,Hid (ms (P.map (·.ks))<=gk)/\gk<=2001/\Eo W wr S G (.mk k m u g o rL d ks) h0 v P P)
 case atStart=>exact⟨[⟨h0.ak,h0.ck,ks⟩],by show _<=_;simp[ms],by omega,ad⟩
 case round=>
  obtain⟨P,dk,gq,ad⟩:=hrel;rcases List.eq_nil_or_concat P with rfl|⟨H,e,dm⟩
  .obtain⟨a,cap,bi,_,_,_⟩:=Ev ad.row
   simp only[RC]at bi;subst bi;have ew:=ad.box;obtain⟨ch,cl,co,cr,cx,cD,cF,c3⟩:=ew;have dn:=ad.res;obtain⟨⟨z0,c9,da,z3,z4,z5,dd,de⟩,dg⟩:=id dn;have dp:=dn.store (.mk k m u g o rL d ks) h0;have dr:Az (G+1) wr<|As wr (G+1) (.mk k m u g o rL d ks) h0:=Cb;have ds:=ad.low.trans<|dr.below (B:=W.heap.size) oM ad.low.size;have step:AW (Ag wr.cell?<|E0 G (.slice a 0 cap) S)<|Ag (As wr (G+1) (.mk k m u g o rL d ks) h0).cell? S:=Bv λq ak ap=>⟨(KI.1 ap).2.2,dr.block q ak (KI.1 ap).1⟩;have du:=ad.tree.on step
   generalize bn:As wr (G+1) (.mk k m u g o rL d ks) h0=ey at dp ds du;have ez:=hid bn;go_wp2;have bn:=ez.out;simp only[As]at bn;rw[bn];obtain⟨eB,eD,eE,eF,eL,eX,e0,e1⟩:=dp.1;refine NZ (v:=At (.mk k m u g o rL d ks) h0) (by simp[results,results28,go_sem,At,eB,eD,eE,eF,eL,eX,e0,e1]) rfl ⟨⟨h0,rfl,du⟩,ds⟩
  .rw[List.concat_eq_append]at dm
   subst dm;obtain⟨a,cap,bi,e2,gr,e3⟩:=Ev ad.row;have el:(H++[e]).length=H.length+1:=by simp
   rw[el]at bi e2;rcases e3 with⟨_,e4,_⟩|⟨bg,rfl,gu,dw,e5,_⟩
   .rw[el]at e4;omega
   subst bi;have dx:Ce wr bg H.length<|.slice e.a e.ks.length e.c:=e5 _ _ (by simp[pv]);have e6:H.length<=2001:=by
    have ar:=dk.out;rw[CT,Ku]at ar;have bb:=SR<|H.map (·.ks);simp at bb;omega
   have bd:Hid<|ms (H.map (·.ks))+(1+2*cntL e.ks)<=gk:=by
    show _<=_;have ar:=dk.out;rw[CT,Ku]at ar;simp[ms]at ar;omega
   have be:Eo W wr S G (.mk k m u g o rL d ks) h0 (.slice (some<|aD bg 0) H.length cap) H (e::H):=(ad.pop rfl).sub (λq ak=>by simp at ak⊢;rcases ak with h|h;exact .inr h;exact .inl h);obtain⟨_,bk,dy,e7⟩:=be.pend e oS;have e8:H.length<=cap:=by omega
   generalize gv:H.length=n at dx e6 be e8⊢;have gw:IntKind.i64.wrap ((n:Int)+1-1)=(n:Int):=(DQ oM oM).trans oM;obtain⟨ea,ec,I⟩:=e;dsimp only at dx bd bk dy e7;rcases bk with rfl|⟨ge,rfl,e9,_,_⟩
   .go_wp2
    generalize Value.slice (some<|aD bg 0) n cap=v0 at be⊢;go_loopw [27,3] (λi v w'=>i=iN 0/\v=v0/\wr=w') (λ_ _ _=>0)
    case atStart=>exact⟨rfl,rfl,rfl⟩
    case round=>
     obtain⟨rfl,rfl,rfl⟩:=hrel;go_wp2;go_roundg (ms<|H.map (·.ks))
     case measure=>have bb:=bd.out;omega
     case rel=>exact⟨H,rP _,by have bb:=bd.out;omega,be.sub (λq ak=>by simp[ak])⟩
   go_wp2;generalize Value.slice (some<|aD bg 0) n cap=v0 at be⊢;go_loopw [27,3] (λi v wr=>∃(j:Nat) (ab:List Pn),j<=I.length/\i=iN j/\Hid (ab.map (·.ks)=H.map (·.ks)++(I.take j).map (λp=>p.2.kids))/\Eo W wr S G (.mk k m u g o rL d ks) h0 v ab (⟨some<|aD ge 0,ec,I⟩::ab)) (λi _ _=>I.length-(intOf i).toNat)
   case atStart=>exact⟨0,H,N7 _,rfl,by show _=_;simp,be⟩
   case round=>
    obtain⟨j,ab,gx,rfl,bH,aw⟩:=hrel;by_cases bl:j<I.length;rotate_left
    .have fa:decide ((j:Int)<(I.length:Int))=false:=NM oM
     have dz:Hid<|ab.map (·.ks)=H.map (·.ks)++I.map (λp=>p.2.kids):=by
      have:=bH.out;rw[R3 oM]at this;exact this
     go_wp2;go_roundg (ms<|ab.map (·.ks))
     case measure=>
      rw[dz.out,Ku];have ar:=Pc I;have bb:=bd.out;omega
     case rel=>
      refine⟨ab,rP _,?_,aw.sub (λq ak=>by simp[ak])⟩;rw[dz.out,Ku];have ar:=Pc I;have bb:=bd.out;omega
    have fa:(j:Int)<(I.length:Int):=by omega
    obtain⟨⟨nm,y⟩,hx⟩:∃p,I[j]? =some p:=⟨I[j],by simp[bl]⟩;obtain⟨dT,bk,_,_⟩:=aw.pend ⟨some<|aD ge 0,ec,I⟩ oS;dsimp only at dT bk;have bo:=MZ dy hx;rcases bk with bY|⟨gy,d0,_,dw,fb⟩
    .rw[bY]at bl;simp at bl
    simp only[RV,Cj,and_true]at d0;subst d0;rcases dT with bY|⟨gz,g0,d1,f,fc⟩
    .rw[bY]at bl;simp at bl
    simp only[RV,Cj]at d1;obtain⟨rfl,rfl,_⟩:=d1;obtain⟨b0,b1⟩:=fc j nm y hx;rw[RT]at b0;have HK:=hid b0;have d2:Ep wr.cell? ge (j*9) nm y<|f j:=b0.on<|BW _ _
    have d3:Hid (∀O,Below wr.heap.size wr O->cL 64 #[At y<|f j] O λe ao=>(∃h',e=.returned (At y h')/\Am (Ag ao.cell?<|E0 G u3 S) y h'/\I2 O.heap.size ao h'.ak y.kids)/\Below O.heap.size O ao):=
     λO bx=>VX (λk Z=>by
      simp[E0]at Z;rcases Z with(Z|Z)|Z
      .have:=aw.res.1.lt;omega
      .exact(aw.row.lt k Z.symm).2
      .have:=en.out k Z;have:=aw.res.1.lt;omega) b1 O bx bo
    generalize f j=g2 at HK d2 d3 b1;have fd:=hid hx;have d4:EO y.kids/\y.kids.length<=1000:=by
     obtain⟨az,aA,a1,a6,a7,a8,ba,J⟩:=y;rw[A7]at bo;exact⟨bo.2.2,bo.2.1⟩
    obtain⟨az,aA,a1,a6,a7,a8,ba,J⟩:=y;obtain⟨p0,p1,p2,p3,g5,g6,g7,g8,g9⟩:=d2.nine;go_wp2_with fail
    go_call d3 _ (NB _ _) as bB w2 ⟨⟨h',rfl,hN2,hF2⟩,b2⟩
    have fe:=(aw.below b2).more (e:=⟨h'.ak,h'.ck,J⟩) ⟨(Cs.1 hN2).2.2.2,by
     rcases hF2 with q|⟨bf,al,bB,bC,bF⟩
     .exact .inl q
     .exact .inr ⟨bf,al,by have:=aw.res.1.lt;omega,bC,bF⟩,d4.1,d4.2⟩
    have ha:∀j,Fz w2 ge j:=λj=>(b2.frozen (p:=(aD ge j)) dw).trans<|fb j;have d5:=HK.out.on<|Du b2
    have ff:=fe.store e9 d5.2 (b1.on<|Du b2) hN2;have d6:(BS w2 ge (j*9+1) (.mk az aA a1 a6 a7 a8 ba J) h').heap.size=w2.heap.size:=by simp[BS]
    have bp:=ff.below<|(NB _ _).alloc (rP _)<|.cells #[.slice h'.ak J.length h'.ck] 29;have b4:=cell_one_new (BS w2 ge (j*9+1) (.mk az aA a1 a6 a7 a8 ba J) h') (.slice h'.ak J.length h'.ck) 29;rw[d6]at b4;have fg:((BS w2 ge (j*9+1) (.mk az aA a1 a6 a7 a8 ba J) h').alloc<|.cells #[.slice h'.ak J.length h'.ck] 29).heap.size=w2.heap.size+1:=by rw[ND,d6]
    have d7:=hid fg;have d8:=bp.row;have d9:G+2<=((BS w2 ge (j*9+1) (.mk az aA a1 a6 a7 a8 ba J) h').alloc<|.cells #[.slice h'.ak J.length h'.ck] 29).heap.size:=by have:=bp.res.1.lt;omega
    have hc:ab.length<=2001:=by
     have ar:ab.length<=ms (ab.map (·.ks)):=by have:=SR<|ab.map (·.ks);rwa [CE]at this
     rw[bH.out,Ku]at ar;have bb:=mA I j;have he:=Pc I;have hf:=bd.out;omega
    obtain⟨hg,q1,q2,hh,q4,q5,q6,q7,q8⟩:=(d5.on<|BW _ _).nine;have bG:At (.mk az aA a1 a6 a7 a8 ba J) h'=(Ba az aA a1 a6 a7 a8 ba J h'):=rfl;rw[bG];obtain⟨fh,fo,fp,fs,ft⟩:=EL Tryz.infoS;simp only[BS]at bp b4 d8 d9 d7;have eb:Hid _:=bp;go_wp2_with (at_builtin;refine DP _ rfl (.tmp 40) (.tmp 47) 146 rfl (G+2) 29 fh nL 1 24 underlying146 fo fp fs ft rfl oD _ ab.length (pv ab) rfl d8 (some<|aD w2.heap.size 0) 1 1 [.slice h'.ak J.length h'.ck] rfl rfl (.inr ⟨_,rfl,b4⟩) (λu ed=>by simp at ed;subst ed;rfl) (by unfold maxLen;omega) oM d9 ?_)
    intro ee ey fx gb gg;have ef:ee.ownBlock=u3.ownBlock\/∃s,ee.ownBlock=some s/\w2.heap.size+1<=s:=by
     rcases gg with q|q
     .exact .inl q
     .exact .inr ⟨_,q,by exact rP _⟩
    rw[<-d7.out]at ef
    have gl:=(eb.push (e:=⟨h'.ak,h'.ck,J⟩) fx gb ef<|eb.pend _ N4).sub (Q':=⟨some<|aD ge 0,ec,I⟩::(ab++[⟨h'.ak,h'.ck,J⟩])) (λq ak=>by
     rcases R1.1 ak with al|al
     .rw[al];simp
     .rcases Cq.1 al with al|al
      .simp[al]
      .simp at al;rw[al];simp)
    go_wp2;go_roundw
    case rel=>
     refine⟨j+1,ab++[⟨h'.ak,h'.ck,J⟩],by omega,by go_num,?_,gl⟩;show _=_;rw[CT,bH.out,CO,fd.out];simp[Nd.kids]
    case measure=>simp[intOf];omega
open Go.Shelf
attribute [local go_sem] Oper.semAt_some
def Gt(n₀:Nat)(S:Nat->Bool):Nat->Bool:=λk=>(k==n₀||k==n₀+1+1+1+1)||S k
theorem LH{A:World}{l:Nat}{o:Obj}(H:A.heap[l]? =some o)(I:o.isCells=false)(G:Obj):AW (Ag A.cell? S)<|Ag (A.putObj l G).cell? S:=λq v h=>by
 have J:=Gg h;rw[CV J]at h⊢;exact Nl H I G _ _ h
theorem Xb{S':Nat->Bool}(h:∀k,S k=false->S' k=false):AW (Ag c S)<|Ag c S':=λq v G=>by
 have H:=Gg G;rw[CV H]at G;rw[CV<|h _ H];exact G
structure Ob (S:Nat->Bool) (w A:World) (xs:List Nd) (ry:List BA) (st:Loop) (i:Nat):Prop where
 low:Below w.heap.size w A
 eb:∃v,Boxed A w.heap.size 155 v/\(0<i->ES (Ag A.cell?<|Gt w.heap.size S) v (AX xs<|ry.take<|i-1))
 dk:A.heap[w.heap.size+1+1+1]? =some (.deferred<|some [])
 lk:A.heap[w.heap.size+1+1+1+1]? =some (.loop st)
theorem Ob.keep{A B:World}{st:Loop}(h:Ob S w A xs ry st i)(hb:Below A.heap.size A B):Ob S w B xs ry st i:=by
 obtain⟨v,G,H⟩:=h.eb;refine⟨h.low.trans<|hb.mono h.low.size,⟨v,Ew G hb,λI=>(H I).on<|Du hb⟩,?_,?_⟩
 .exact(hb.block _ (N3.1 h.dk).1).trans h.dk
 .exact(hb.block _ (N3.1 h.lk).1).trans h.lk
theorem VS(w:World)(a an:Option Addr)(n cap m rN:Nat):
 Calls prog 106 #[.slice a n cap,.slice an m rN] w λe w'=>e=.returned (.func (.func 145) #[] #[pO w.heap.size 0,pO (w.heap.size+1) 0])/\w'=(w.alloc<|.cells #[.slice a n cap] 115).alloc (.cells #[.slice an m rN] 50):=by
 go_enter func106,ntmps106;go_wp2;go_ret;exact⟨rfl,rfl⟩
theorem Sh(a6:∀k,S k=true->k<w.heap.size){a:Option Addr}{cap:Nat}{an:Option Addr}{rN:Nat}(hx:CP (Ag w.cell? S) a xs)(J:Bi (Ag w.cell? S) an ry)(bl:xs.length<=1000)(bn:ry.length<=1000)(bo:EM<|A5 xs):
 Calls prog 74 #[.slice a xs.length cap,.slice an ry.length rN] w λe w'=>∃v,e=.returned v/\ES (Ag w'.cell? S) v (AX xs ry)/\Below w.heap.size w w':=by
 refine(ts (n:=0)).1 ?_;refine callsIn_of_wp_marks func74 rfl trivial ?_ rfl;simp only[ntmps74,List.size_toArray,R5,RC,Nat.reduceAdd,Nat.reduceSub,tH,tG,List.push_toArray,List.append_toArray,CN,Cd];gi_wp2_with fail
 refine⟨trivial,rfl,CallsIn.mono (ts.2<|VS _ a an xs.length cap ry.length rN) ?_⟩;rintro e I ⟨rfl,O⟩;rw[ND];have bp:Below w.heap.size w I:=by rw[O];exact(bN.alloc (by rw[ND];omega) _).alloc (by rw[ND,ND];omega) _
 have a7:I.heap.size=w.heap.size+1+1+1:=by rw[O,ND,ND,ND]
 have bq:Boxed I w.heap.size 155 nL:=by rw[O];exact((Boxed.new w _ _).alloc _).alloc _
 have bs:Boxed I (w.heap.size+1) 115<|.slice a xs.length cap:=by
  rw[O];have:=(Boxed.new (w.alloc<|.cells #[nL] 155) 115<|.slice a xs.length cap).alloc<|.cells #[.slice an ry.length rN] 50;rwa [ND]at this
 have bu:Boxed I (w.heap.size+1+1) 50<|.slice an ry.length rN:=by
  rw[O];have:=Boxed.new ((w.alloc<|.cells #[nL] 155).alloc<|.cells #[.slice a xs.length cap] 115) 50<|.slice an ry.length rN;rwa [ND,ND]at this
 clear O;gi_wp2_with fail
 refine O7 (gf:=145) (lb:=#[pO (w.heap.size+1) 0,pO (w.heap.size+1+1) 0]) rfl (enters_of func145 oK rfl) ?_;intro fn rec bx Z ak bA a8 ba;rw[a7]at ak bA a8 ba⊢;have al:Below I.heap.size I Z:=by rw[a7];exact ak
 have bb:Ob S w Z xs ry (rec .ready none) 0:=⟨bp.trans<|ak.mono oM,⟨_,Ew bq al,λh=>by omega⟩,ba,a8⟩;have ao:∀k,w.heap.size<=k->S k=false:=λk G=>by
  cases hh:S k with
  |false=>rfl
  |true=>have:=a6 k hh;omega
 have bd:AW (Ag w.cell? S)<|Ag Z.cell?<|Gt w.heap.size S:=Bv λk G J=>⟨by simp[Gt,J];omega,bb.low.block k G⟩;have bB:Ag Z.cell? (Gt w.heap.size S) (aD (w.heap.size+1) 0)=some (.slice a xs.length cap):=by rw[CV (by simp[Gt];exact ao _ (by show w.heap.size<=w.heap.size+1;omega))];exact(Ew bs al).cell
 have bC:Ag Z.cell? (Gt w.heap.size S) (aD (w.heap.size+1+1) 0)=some (.slice an ry.length rN):=by rw[CV (by simp[Gt];exact⟨by omega,ao _ oM⟩)];exact(Ew bu al).cell
 refine(U4 (w.heap.size+1) (w.heap.size+1+1) a cap xs an rN ry (w.heap.size+1+1+1+1) (λi S' A=>S'=Gt w.heap.size S/\Ob S w A xs ry (rec .ready none) i) (λ_=>False) Z (Gt w.heap.size S) bB bC (hx.on bd) (J.on bd) bl bn bo
  (λi S' A h k G=>by
   rw[h.1]at G;simp[Gt]at G;have⟨v,h1,_⟩:=h.2.eb;rcases G with(e|e)|e
   .rw[e];exact h1.lt
   .rw[e];exact(N3.1 h.2.lk).1
   .exact N1 (a6 k e) h.2.low.size)
  (λi S' A B h hb=>⟨h.1,h.2.keep hb⟩) ?rounds ⟨rfl,bb⟩).mono ?after
 case rounds=>
  rintro i S' v A bY ⟨rfl,H⟩ ab;have ap:Hid _:=ab;obtain⟨va,vc,D,rfl,_⟩:=ab;have⟨v0,hb0,_⟩:=H.eb;have ar:=Hy hb0 H.lk<|.loop<|rec .busy none;have b0:=ar.cell;have b1:=ar.frozen;refine MK bx H.lk rfl ?_;gi_wp2
  refine⟨H.lk,?_⟩;gi_wp2
  have bF:=(N3.1 H.lk).1;have aw:((A.putObj (w.heap.size+1+1+1+1)<|.loop<|rec .busy none).setCell (aD w.heap.size 0)<|.slice va D.length vc).heap[w.heap.size+1+1+1+1]? =some (.loop<|rec .busy none):=by
   rw[Cv _ _ _ _ (by show w.heap.size+1+1+1+1≠w.heap.size;omega)];exact World.putObj_heap_same bF
  have be:∀k,Gt w.heap.size S k=false->(((A.putObj (w.heap.size+1+1+1+1)<|.loop<|rec .busy none).setCell (aD w.heap.size 0)<|.slice va D.length vc).putObj (w.heap.size+1+1+1+1)<|.loop<|rec .ready none).heap[k]? =A.heap[k]?:=λk G=>by
   simp[Gt]at G;rw[World.putObj_heap_other G.1.2,Cv _ _ _ _ (by show k≠w.heap.size;exact G.1.1),World.putObj_heap_other G.1.2]
  have ad:AW (Ag A.cell?<|Gt w.heap.size S)<|Ag (((A.putObj (w.heap.size+1+1+1+1)<|.loop<|rec .busy none).setCell (aD w.heap.size 0)<|.slice va D.length vc).putObj (w.heap.size+1+1+1+1)<|.loop<|rec .ready none).cell?<|Gt w.heap.size S:=Bv λk _ J=>⟨J,be k J⟩;have bG:Below w.heap.size A<|((A.putObj (w.heap.size+1+1+1+1)<|.loop<|rec .busy none).setCell (aD w.heap.size 0)<|.slice va D.length vc).putObj (w.heap.size+1+1+1+1)<|.loop<|rec .ready none:=by
   have bf:=(GC (l:=w.heap.size+1+1+1+1) H.low.size oM<|.loop<|rec .busy none).setCell (p:=(aD w.heap.size 0)) (rP _)<|.slice va D.length vc;exact bf.trans<|GC (Rz H.low.size bf.size) oM _
  exact⟨aw,rfl,_,⟨rfl,⟨H.low.trans bG,⟨_,Hy (ar.set _) aw _,λ_=>ES.on ap ad⟩,(be _ (by simp[Gt];exact⟨by omega,ao _ oM⟩)).trans H.dk,World.putObj_heap_same (N3.1 aw).1⟩⟩,ad⟩
 case after=>
  rintro e W2 ⟨⟨v,rfl⟩,(⟨S',rfl,h⟩|h)⟩;rotate_left
  .exact h.elim
  refine⟨⟨_,rfl⟩,.inl ⟨h.lk,?_⟩⟩;have⟨v,hb,ab⟩:=h.eb;have bg:=ab oM;rw[Nat.add_sub_cancel,List.take_length]at bg;have bi:=Hy hb h.lk<|.loop<|rec .exhausted none;have az:(W2.putObj (w.heap.size+1+1+1+1)<|.loop<|rec .exhausted none).heap[w.heap.size+1+1+1]? =some (.deferred<|some []):=(World.putObj_heap_other oM).trans h.dk;have ad:=LH (S:=S) h.lk rfl (.loop<|rec .exhausted none);have aA:=(bg.on (Xb (S':=S) λk G=>by simp[Gt]at G;exact G.2)).on ad;have a1:=h.low.trans<|GC (l:=w.heap.size+1+1+1+1) h.low.size oM<|.loop<|rec .exhausted none;generalize W2.putObj (w.heap.size+1+1+1+1) (.loop<|rec .exhausted none)=bk at bi az aA a1⊢;have ap:Hid _:=aA;obtain⟨va,vc,D,rfl,_⟩:=aA;have b2:=bi.cell;gi_wp2
  refine⟨by simp,.inl ⟨_,_,rfl,run_takeDeferred az,?_⟩⟩;have bH:ES (Ag (bk.putObj (w.heap.size+1+1+1)<|.deferred none).cell? S) (.slice va D.length vc)<|AX xs ry:=ES.on (c:=Ag bk.cell? S) ap<|LH az rfl _;exact⟨_,results_tmp rfl _ _ _,.slice va D.length vc,rfl,bH,a1.trans<|GC (l:=w.heap.size+1+1+1) a1.size oM _⟩
def GH(l:List<|Nd×Nat):Prop:=∀q∈l,A7 q.1
theorem jE(h:A7 x):EO x.kids:=by
 obtain⟨k,m,u,g,o,rL,d,ks⟩:=x;rw[A7]at h;exact h.2.2
theorem GH.kid(h:GH l)(nm:BA):GH<|BU nm l:=λq H=>by
 obtain⟨p,I,e⟩:=C0.1 H;obtain⟨y,G,rfl⟩:=R2.1 e;have J:=h p I;unfold Ek at G;split at G
 .cases G
 .obtain⟨O,Z,rfl⟩:=R2.1 G
  obtain⟨n,z⟩:=O;exact MZ (jE J) Z
theorem GH.sh(h:GH l):GH<|A8 l:=λq G=>h q<|Jr l q G
theorem Rc(h:GH<|A5 xs):∀ry:List BA,GH<|AX xs ry:=by
 intro ry;unfold AX;generalize G:A8 (A5 xs)=l;have H:GH l:=by rw[<-G];exact h.sh
 clear G;induction ry generalizing l with
 |nil=>exact H
 |cons n r I=>rw[Ko];exact I _ (H.kid n).sh
theorem Vs{b c:Nat}(G:c≠b)(u0 u1 u2 u3 u4 u5 u6 u7:Value):((((((((w.setCell (aD b 0) u0).setCell (aD b 1) u1).setCell (aD b 2) u2).setCell (aD b 3) u3).setCell (aD b 4) u4).setCell (aD b 5) u5).setCell (aD b 6) u6).setCell (aD b 7) u7).cell? (aD c i)=w.cell? (aD c i):=by simp[aD,NG]
structure Df where
 ua:Option Addr
 ga:Option Addr
 uc:Nat
 gc:Nat
 us:List Rg
 gs:List Rg
def Df.v(M:Df):Value:=G7 M.ua M.us.length M.uc M.ga M.gs.length M.gc
structure EN (W:World) (M:Df):Prop where
 u:Rgs W M.ua M.us
 g:Rgs W M.ga M.gs
 ul:M.us.length<=100
 gl:M.gs.length<=100
 cu:M.us.length<=M.uc
 cg:M.gs.length<=M.gc
 ou:∀r∈M.us,r.ok
 og:∀r∈M.gs,r.ok
theorem EN.below{M:Df}(h:EN W M)(hb:Below W.heap.size W G):EN G M:=⟨h.u.below hb,h.g.below hb,h.ul,h.gl,h.cu,h.cg,h.ou,h.og⟩
def FL:Nd->Prop
 |.mk _ _ u g _ _ _ _=>A4 u/\A4 g
theorem fT(v:Int):I6 (some v)=.tuple #[iN v,.bool true]:=rfl
theorem gI:I6 none=.tuple #[iN 0,.bool false]:=rfl
theorem pE{m G:Int}(I:Am c (.mk k m u g o rL d ks) h):Am c (.mk k m G H o rL d ks) h:=Cs.2<|Cs.1 I
theorem XX{m G:Int}(h:A7<|.mk k m u g o rL d ks):A7<|.mk k m G H o rL d ks:=by rw[A7]at h⊢;exact h
theorem mw{m G:Int}:cnt (.mk k m G H o rL d ks)=cnt (.mk k m u g o rL d ks):=by rw[cnt,cnt]
theorem AC.ids{b:Nat}{m:Int}(I:AC w b (.mk k m u g o rL d ks) h)(G H:Int):AC ((w.setCell ⟨b,2,none⟩<|iN G).setCell ⟨b,3,none⟩<|iN H) b (.mk k m G H o rL d ks) h:=by
 obtain⟨⟨J,O,Z,ab,ad,ak,al,ao⟩,ap⟩:=I;refine⟨⟨?_,?_,?_,?_,?_,?_,?_,?_⟩,λj=>?_⟩;all_goals first|(simp[go_sem,J,O,Z,ab,ad,ak,al,ao];done)|(simp[go_sem,ap j];done)
theorem Uw(W A B C:World)(ua ga:Option Addr)(H I uc gc:Nat)(k m u g:Int)(o:Bool)(rL:List Kv)(d:BA)(ks:Ay)(h:Hd)
 (G:A=W.alloc (Er ua H uc ga I gc)) (J:B=A.alloc (Aw k m u g o rL d ks h)) (O:C=B.alloc (AO)):
 C.cell? ⟨W.heap.size,0,none⟩=some (.slice ua H uc)/\C.cell? ⟨W.heap.size,1,none⟩=some (.slice ga I gc)/\AC C (W.heap.size+1) (.mk k m u g o rL d ks) h/\AC C (W.heap.size+1+1) zN zH/\Below W.heap.size W C/\C.heap.size=W.heap.size+1+1+1:=by
 have ab:A.heap.size=W.heap.size+1:=by rw[G,ND]
 have ad:B.heap.size=W.heap.size+1+1:=by rw[J,ND,ab]
 have aw:C.heap.size=W.heap.size+1+1+1:=by rw[O,ND,ad]
 have ak:Below W.heap.size W A:=by rw[G];exact(NB _ _).alloc (rP _) _
 have al:Below A.heap.size A B:=by rw[J];exact(NB _ _).alloc (rP _) _
 have Z:Below B.heap.size B C:=by rw[O];exact(NB _ _).alloc (rP _) _
 have c0:Ce A W.heap.size 0<|.slice ua H uc:=by rw[G];exact rO _ _ _ _ rfl
 have c1:Ce A W.heap.size 1<|.slice ga I gc:=by rw[G];exact rO _ _ _ _ rfl
 have ao:AW A.cell? C.cell?:=(Ai al).trans<|Ai Z;have ap:=AC.new A k m u g o rL d ks h;rw[<-J,ab]at ap;have ar:=AC.zero B;rw[<-O,ad]at ar;exact⟨ao _ _ c0,ao _ _ c1,ap.below Z,ar,(ak.trans<|al.mono ak.size).trans<|Z.mono oM,aw⟩
def Kk(W G:World)(S:Nat->Bool)(e:Ending):Option Nd->Prop
 |none=>e=.returned (.tuple #[At zN zH,.iface 101<|iN 11])/\Below W.heap.size W G
 |some y=>(∃h',e=.returned (.tuple #[At y h',.nilIface])/\Am (Ag G.cell? S) y h')/\Below W.heap.size W G
def JL:Option Nd->Value
 |none=>.iface 101<|iN 11
 |some _=>.nilIface
theorem Kk.un{e:Ending}(h:Kk W G S e R):∃k m u g o rL d ks hx,e=.returned (.tuple #[Ba k m u g o rL d ks hx,JL R])/\Bw W G:=by
 cases R with
 |none=>exact⟨_,_,_,_,_,_,_,_,_,h.1,h.2⟩
 |some y=>obtain⟨k,m,u,g,o,rL,d,ks⟩:=y;obtain⟨⟨hx,e,_⟩,hb⟩:=h;exact⟨_,_,_,_,_,_,_,_,_,e,hb⟩
def JG(P:Hd->Prop)(W G:World)(S:Nat->Bool)(e:Ending):Option Nd->Prop
 |none=>e=.returned (.tuple #[At zN zH,.iface 101<|iN 11])/\Below W.heap.size W G
 |some y=>(∃h',e=.returned (.tuple #[At y h',.nilIface])/\Am (Ag G.cell? S) y h'/\P h')/\Below W.heap.size W G
theorem JG.e{P:Hd->Prop}{e:Ending}(h:JG P W G S e R):Kk W G S e R:=by
 cases R with
 |none=>exact h
 |some y=>obtain⟨⟨h',a,b,_⟩,c⟩:=h;exact⟨⟨h',a,b⟩,c⟩
theorem JG.un{P:Hd->Prop}{e:Ending}(h:JG P W G S e R):∃k m u g o rL d ks hx,e=.returned (.tuple #[Ba k m u g o rL d ks hx,JL R])/\Bw W G/\∀{W0 H:World} {S':Nat->Bool},Bw W0 H->(∀x h,Am (Ag G.cell? S) x h->Am (Ag H.cell? S') x h)->JG P W0 H S' (.returned<|.tuple #[At (.mk k m u g o rL d ks) hx,JL R]) R:=by
 cases R with
 |none=>exact⟨_,_,_,_,_,_,_,_,_,h.1,h.2,λb _=>⟨rfl,b⟩⟩
 |some y=>obtain⟨k,m,u,g,o,rL,d,ks⟩:=y;obtain⟨⟨hx,e,n,p⟩,hb⟩:=h;exact⟨_,_,_,_,_,_,_,_,_,e,hb,λb f=>⟨⟨_,rfl,f _ _ n,p⟩,b⟩⟩
theorem fY{up:Bool}{fn:Nat}(bp:fn=189/\up=true\/fn=80/\up=false)(P:Hd->Prop)(cF:∀k,S k=true->k<W.heap.size)(c3:∀(ar:World) (a1:Nat->Bool) (y:Nd),(∀k,a1 k=true->k<ar.heap.size)->Am (Ag ar.cell? a1) y h->A7 y->cnt y<=1000->y.kids=x.kids->Calls prog 28 #[At y h] ar λe aw=>(∃h',e=.returned (At y h')/\Am (Ag aw.cell? a1) y h'/\P h')/\Bw ar aw)(c4:Am (Ag W.cell? S) x h)(c5:A7 x)(c6:cnt x<=1000)(hid:FL x){M:Df}(c8:EN W M):
 Calls prog 79 #[M.v,At x h,.func (.func fn) #[] #[]] W λe aw=>JG P W aw S e<|BH up M.us M.gs x:=by
 obtain⟨k,m,u,g,o,rL,d,ks⟩:=x;obtain⟨ua,ga,uc,gc,us,gs⟩:=M;obtain⟨bq,bs,bu,bx,cu,cg,bA,bB⟩:=c8;dsimp only at bq bs bu bx cu cg bA bB;obtain⟨c9,da⟩:=hid;have du:∀xs w,(callFunc fn xs).run prog w=.ok (.enter fn xs) w:=by rcases bp with h|h<;>rw[h.1]<;>first|exact Tryz.call189|exact Tryz.call80
 have bC:∀(a:Option Addr) (cap:Nat) (rs:List Rg) (x:Int) (w:World),rs.length<=100->rs.length<=cap->(∀r∈rs,r.ok)->A4 x->Rgs w a rs->Calls prog fn #[.slice a rs.length cap,iN x] w λe w'=>e=.returned (.tuple #[iN<|(if up=true then Hc rs x else Ig rs x).getD 0,.bool (if up=true then Hc rs x else Ig rs x).isSome])/\Bw w w':=by
  rcases bp with⟨rfl,rfl⟩|⟨rfl,rfl⟩
  .exact UK
  .exact Uf
 obtain⟨a6,bF⟩:=Aq (if up=true then Hc us u else Ig us u);obtain⟨a7,bG⟩:=Aq (if up=true then Hc gs g else Ig gs g);obtain⟨G,bH⟩:=Aq<|a6.getD 0;obtain⟨H,bY⟩:=Aq<|a7.getD 0;obtain⟨b0,b1⟩:=Aq a6.isSome;obtain⟨b2,b4⟩:=Aq a7.isSome;have dd:Hid (BH up us gs (.mk k m u g o rL d ks)=if(b0&&b2)=true then some (.mk k m G H o rL d ks)else none):=by
  show _=_;rw[BH,bF.out,bG.out,<-bH.out,<-bY.out,<-b1.out,<-b4.out];cases a6<;>cases a7<;>rfl
 rw[dd.out];obtain⟨c0,c1,I,J,Z,dw⟩:=Uw W _ _ _ ua ga us.length gs.length uc gc k m u g o rL d ks h rfl rfl rfl;have b6:Hid _:=bC ua uc us u (((W.alloc<|Er ua us.length uc ga gs.length gc).alloc<|Aw k m u g o rL d ks h).alloc AO) bu cu bA c9<|bq.below Z;have az:Hid (∀ab,Bw W ab->_):=λab al=>bC ga gc gs g ab bx cg bB da<|bs.below al;rw[bF.out,bH.out,b1.out]at b6
 rw[bG.out,bY.out,b4.out]at az;obtain⟨f0,f1,f2,f3,f4,f5,f6,f7⟩:=I.1;show Calls prog 79 #[G7 ua us.length uc ga gs.length gc,Ba k m u g o rL d ks h,.func (.func fn) #[] #[]] W _;go_enter func79,ntmps79;go_wp2_with fail
 refine rQ b6 ?_;rintro e ab ⟨rfl,ao⟩;have al:=Z.trans<|ao.mono Z.size;replace I:=I.below ao;replace J:=J.below ao;replace c1:=Ai ao _ _ c1;have az:=hid<|az.out ab al;have dx:W.heap.size+1+1+1<=ab.heap.size:=by have:=ao.size;omega
 obtain⟨f0,f1,f2,f3,f4,f5,f6,f7⟩:=I.1;go_wp2_with fail
 refine rQ az.out ?_;rintro e ad ⟨rfl,aA⟩;have a8:=al.trans<|aA.mono al.size;replace I:=I.below aA;replace J:=J.below aA;obtain⟨⟨f0,f1,f2,f3,f4,f5,f6,f7⟩,O⟩:=I;have dy:=O 2;have g3:=O 3;have I:AC ad (W.heap.size+1) (.mk k m u g o rL d ks) h:=⟨⟨f0,f1,f2,f3,f4,f5,f6,f7⟩,O⟩;cases b0<;>cases b2
 case true.true=>
  have ba:Bw W<|(ad.setCell ⟨W.heap.size+1,2,none⟩<|iN G).setCell ⟨W.heap.size+1,3,none⟩<|iN H:=(a8.setCell (p:=⟨W.heap.size+1,2,none⟩) (tN _) _).setCell (p:=⟨W.heap.size+1,3,none⟩) (tN _) _;have de:AC ((ad.setCell ⟨W.heap.size+1,2,none⟩<|iN G).setCell ⟨W.heap.size+1,3,none⟩<|iN H) (W.heap.size+1+1) zN zH:=(J.other (by show W.heap.size+1≠W.heap.size+1+1;omega) _).other (by show W.heap.size+1≠W.heap.size+1+1;omega) _
  have dg:Hid _:=c3 ((ad.setCell ⟨W.heap.size+1,2,none⟩<|iN G).setCell ⟨W.heap.size+1,3,none⟩<|iN H) (λk=>k==W.heap.size||k==W.heap.size+1||k==W.heap.size+1+1||S k) (.mk k m G H o rL d ks) (λq ak=>by
   have dz:=aA.size;simp at ak⊢;rcases ak with((e|e)|e)|e
   .omega
   .omega
   .omega
   .have:=cF q e;omega) ((pE c4).on (Bv λq ak ap=>⟨by simp[ap];omega,ba.block q ak⟩)) (XX c5) (by rw[mw (u:=u) (g:=g)];exact c6) rfl
  obtain⟨dT,d0,d1,d2,d3,d4,d5,d6⟩:=(I.ids G H).1;go_wp2_with fail
  refine rQ dg.out ?_;rintro e bb ⟨⟨hx,rfl,dj,dk⟩,b7⟩;have b9:=de.below b7;have ce:=ba.trans<|b7.mono ba.size;have cf:=b9.store (.mk k m G H o rL d ks) hx;have ch:Bw W<|As bb (W.heap.size+1+1) (.mk k m G H o rL d ks) hx:=ce.trans<|Cb.below oM ce.size
  have cl:Hid<|Am (Ag (As bb (W.heap.size+1+1) (.mk k m G H o rL d ks) hx).cell? S) (.mk k m G H o rL d ks) hx:=dj.on (Bv λq ak ap=>by
   simp at ap;exact⟨ap.2,Cb.block q ak ap.1.2⟩)
  have dm:=hid dk;obtain⟨⟨f0,f1,f2,f3,f4,f5,f6,f7⟩,O⟩:=b9;obtain⟨z0,dn,dp,z3,z4,z5,dr,ds⟩:=f8 O;rw[show At (.mk k m G H o rL d ks) hx=Ba k m G H o rL d ks hx from rfl];go_wp2;obtain⟨d7,co⟩:=Aq<|As bb (W.heap.size+1+1) (.mk k m G H o rL d ks) hx;rw[co.out]at cf ch cl;have cr:=co.out;simp only[As]at cr;rw[cr];obtain⟨bd,be,bf,bg,bi,bk,bl,bn⟩:=cf.1;refine NZ (v:=.tuple #[At (.mk k m G H o rL d ks) hx,.nilIface]) (by simp[results,results79,go_sem,At,bd,be,bf,bg,bi,bk,bl,bn]) rfl ⟨⟨hx,rfl,cl,dm⟩,ch⟩
 all_goals
  have cx:=J.store zN zH;have Z:Bw W<|As ad (W.heap.size+1+1) zN zH:=a8.trans<|Cb.below oM a8.size;obtain⟨⟨f0,f1,f2,f3,f4,f5,f6,f7⟩,O⟩:=J;obtain⟨z0,dn,dp,z3,z4,z5,dr,ds⟩:=f8 O;go_wp2;obtain⟨d8,cD⟩:=Aq<|As ad (W.heap.size+1+1) zN zH;rw[cD.out]at cx Z;have bo:=cD.out;simp only[As,zN,zH]at bo;simp only[RC]at bo;rw[bo];obtain⟨bd,be,bf,bg,bi,bk,bl,bn⟩:=cx.1;refine NZ (v:=.tuple #[At zN zH,.iface 101<|iN 11]) (by simp[results,results79,go_sem,At,zN,zH,bd,be,bf,bg,bi,bk,bl,bn]) rfl ⟨rfl,Z⟩
theorem YP{up:Bool}{f:Nat}(bq:f=139/\up=true\/f=42/\up=false)(P:Hd->Prop)(bs:∀k,S k=true->k<W.heap.size)(a1:∀(G:World) (H:Nat->Bool) (y:Nd),(∀k,H k=true->k<G.heap.size)->Am (Ag G.cell? H) y h->A7 y->cnt y<=1000->y.kids=x.kids->Calls prog 28 #[At y h] G λe I=>(∃h',e=.returned (At y h')/\Am (Ag I.cell? H) y h'/\P h')/\Bw G I)(a6:Am (Ag W.cell? S) x h)(a7:A7 x)(a8:cnt x<=1000)(hid:FL x){M:Df}(ba:EN W M):
 Calls prog f #[M.v,At x h] W λe I=>JG P W I S e<|BH up M.us M.gs x:=by
 obtain⟨bb,aA⟩:=Aq<|BH up M.us M.gs x;rw[aA.out];have bd:Hid (∀fn,(fn=189/\up=true\/fn=80/\up=false)->∀(G:World) (H:Nat->Bool),Bw W G->(∀k,H k=true->k<G.heap.size)->Am (Ag G.cell? H) x h->Calls prog 79 #[M.v,At x h,.func (.func fn) #[] #[]] G λe I=>JG P G I H e bb):=λfn bu G H hb bx bA=>by rw[<-aA.out];exact fY bu P bx a1 bA a7 a8 hid<|ba.below hb
 obtain⟨k,m,u,g,o,rL,d,ks⟩:=x;obtain⟨ua,ga,uc,gc,us,gs⟩:=M;obtain⟨c0,c1,bB,Z,ab,bC⟩:=Uw W _ _ _ ua ga us.length gs.length uc gc k m u g o rL d ks h rfl rfl rfl
 have be:=λfn bF=>bd.out fn bF (((W.alloc<|Er ua us.length uc ga gs.length gc).alloc<|Aw k m u g o rL d ks h).alloc AO) (λk=>k==W.heap.size+1+1||S k) ab (λq J=>by
  rw[bC];simp at J;rcases J with e|e
  .omega
  .have:=bs q e;omega)<|a6.on (Bv λq J O=>⟨by simp[O];omega,ab.block q J⟩)
 obtain⟨f0,f1,f2,f3,f4,f5,f6,f7⟩:=bB.1;show Calls prog f #[G7 ua us.length uc ga gs.length gc,(Ba k m u g o rL d ks h)] W _;clear ba aA a6 a7 a8 hid a1 bd;rcases bq with⟨rfl,rfl⟩|⟨rfl,rfl⟩
 case' inl=>
  have bf:=hid<|be _<|.inl ⟨rfl,rfl⟩;go_enter func139,ntmps139
 case' inr=>
  have bf:=hid<|be _<|.inr ⟨rfl,rfl⟩;go_enter func42,ntmps42
 all_goals
  go_wp2_with fail
  refine rQ bf.out ?_;intro e bg bG;obtain⟨ad,ak,al,ao,ap,ar,aw,az,hx,rfl,bi,bH⟩:=bG.un;have Z:=Z.below bi;have bk:=ab.trans<|bi.mono ab.size;have bl:=Z.store (.mk ad ak al ao ap ar aw az) hx;have bn:Bw W<|As bg (W.heap.size+1+1) (.mk ad ak al ao ap ar aw az) hx:=bk.trans<|Cb.below oM bk.size
  have HK:=hid (bH (S':=S) bn λx h bY=>bY.on (Bv λq J O=>by
   simp at O;exact⟨O.2,Cb.block q J O.1⟩))
  obtain⟨b0,b1⟩:=Aq<|JL bb;rw[b1.out]at HK⊢;obtain⟨⟨f0,f1,f2,f3,f4,f5,f6,f7⟩,b2⟩:=Z;obtain⟨z0,co,cr,z3,z4,z5,cx,cD⟩:=f8 b2;go_wp2;obtain⟨cF,bo⟩:=Aq<|As bg (W.heap.size+1+1) (.mk ad ak al ao ap ar aw az) hx;rw[bo.out]at bl bn HK;have bp:=bo.out;simp only[As]at bp;rw[bp];obtain⟨b4,b6,b7,b9,ce,cf,ch,cl⟩:=bl.1;refine NZ (v:=.tuple #[At (.mk ad ak al ao ap ar aw az) hx,b0]) (by simp[results,results139,results42,go_sem,At,b4,b6,b7,b9,ce,cf,ch,cl]) rfl HK
theorem Mz(G:∀k,S k=true->k<W.heap.size)(H:Am (Ag W.cell? S) x h)(I:A7 x)(J:cnt x<=1000)(hid:FL x){M:Df}(O:EN W M):
 Calls prog 139 #[M.v,At x h] W λe Z=>Kk W Z S e<|BH true M.us M.gs x:=
 rQ (YP (.inl ⟨rfl,rfl⟩) (λ_=>True) G (λ_ _ _ ab ad ak al _=>rQ (J0 ab ad ak al) λ_ _ q=>⟨⟨q.1.choose,q.1.choose_spec.1,q.1.choose_spec.2,trivial⟩,q.2⟩) H I J hid O) λ_ _ q=>q.e
def Kg(l:List<|Nd×Nat):Prop:=l.Pairwise λa b=>a.2<b.2
theorem n9(xs:List Nd):Kg<|A5 xs:=by simp[Kg,A5,tw]
theorem oC:∀l:List<|Nd×Nat,(F5 l).Sublist l:=by intro l;induction l<;>grind [F5]
theorem PJ(l:List<|Nd×Nat):(A8 l).Sublist l:=by cases l<;>grind [A8,oC]
theorem WG{nm:BA}:∀{l:List (Nd×Nat)},Kg l->Kg (BU nm l)
 |[],_=>List.Pairwise.nil
 |t::r,h=>by
  have G:=CK.1 h;have H:=WG (nm:=nm) G.2;show Kg ((t::r).filterMap _);rw[CL];cases Ek nm t.1 with
  |none=>exact H
  |some y=>
   refine CK.2 ⟨λq I=>?_,H⟩;obtain⟨p,J,e⟩:=C0.1 I;obtain⟨z,_,rfl⟩:=R2.1 e;exact G.1 p J
theorem im(xs:List Nd):∀ry:List BA,Kg<|AX xs ry:=by
 intro ry;unfold AX;generalize G:A8 (A5 xs)=l;have H:Kg l:=by rw[<-G];exact(n9 xs).sublist (PJ _)
 clear G;induction ry generalizing l with
 |nil=>exact H
 |cons n r I=>rw[Ko];exact I _<|(WG H).sublist<|PJ _
theorem OW{q:Nd×Nat}{r:List (Nd×Nat)}(h:A8 l=q::r):(∃t,l=q::t)/\(q.1.kind=2\/q.1.kind=1/\r=[]):=by cases l<;>grind [A8,F5]
theorem Pi(nm:BA)(x:Nd):Ek nm x=if x.kind≠2 then none else fk nm x.kids:=by
 obtain⟨k,m,u,g,o,rL,d,ks⟩:=x;show _=if k≠2 then none else fk nm ks
 unfold Ek;by_cases G:k=2
 .have I:JE nm (.mk k m u g o rL d ks)=BV nm ks 0:=NS G
  rw[I,NO (show¬k≠2 from λq=>q G)];rcases JU nm ks 0 with⟨H,J⟩|⟨j,y,H,J,O,_⟩
  .grind
  .rw[H,O,NO oM,RT,Int.toNat_natCast]
   show(ks[j]?).map _=_;grind
 all_goals grind [JE]
theorem dJ{nm:BA}{q I:Nd×Nat}{r ap:List (Nd×Nat)}{ar:List (Nd×Nat)}(ab:A8 ar=l)(ad:Kg l)(O:l=q::r)(aw:A8 (BU nm l)=I::ap):
 q.1.kind=2/\(q.2≠0->I.2≠0)/\(q.2=0->I.2≠0->fk nm q.1.kids=none)/\(q.2=0->I.2=0->fk nm q.1.kids=some I.1):=by
 obtain⟨⟨t,G⟩,_⟩:=OW aw;have ak:q.1.kind=2:=by
  rw[O]at ab;rcases(OW ab).2 with e|⟨e,rfl⟩
  .exact e
  .rw[O]at G
   have az:Ek nm q.1=none:=by rw[Pi,NS (by rw[e];decide)]
   have aA:BU nm [q]=[]:=by
    show [q].filterMap _=[];rw[CL,az];rfl
   rw[aA]at G;cases G
 have a1:Ek nm q.1=fk nm q.1.kids:=by rw[Pi,NO (by simp[ak])]
 rw[O]at ad;have al:=CK.1 ad;have Z:I∈BU nm l:=by rw[G];exact N4 ..
 rw[O]at G Z
 have H:BU nm (q::r)=match fk nm q.1.kids with
  |none=>BU nm r
  |some y=>(y,q.2)::BU nm r:=by
  show(q::r).filterMap _=_;rw[CL,a1];cases fk nm q.1.kids<;>rfl
 refine⟨ak,λh=>?_,λao h=>?_,λao h=>?_⟩
 .obtain⟨p,J,e⟩:=C0.1 Z
  obtain⟨z,_,rfl⟩:=R2.1 e;rcases R1.1 J with rfl|J
  .exact h
  .have:=al.1 p J
   show p.2≠0;omega
 .cases hf:fk nm q.1.kids with
  |none=>rfl
  |some y=>
   rw[hf]at H;rw[H]at G;cases G;exact absurd ao h
 .cases hf:fk nm q.1.kids with
  |none=>
   rw[hf]at H;dsimp only at H;rw[H]at Z;obtain⟨p,J,e⟩:=C0.1 Z;obtain⟨z,_,rfl⟩:=R2.1 e;have:=al.1 p J;have a6:p.2=0:=h;omega
  |some y=>
   rw[hf]at H;rw[H]at G;cases G;rfl
def GM(us gs:List Rg)(xs:List Nd)(ry:List BA)(U:Nd):Nat->Except Int Nd
 |0=>.ok U
 |k+1=>match GM us gs xs ry U k with
  |.error f=>.error f
  |.ok V=>match AX xs (ry.take<|k+1)with
   |[]=>.ok V
   |q::_=>if q.2=0 then .ok V else match BH true us gs (Dv q.1)with
    |none=>.error 11
    |some x=>A3 (some x) (ry.take<|k+1) V
def Im(xs:List Nd)(ry:List BA)(G:Nat->Nd×Nat):Prop:=∀i,i<=ry.length->∃r,AX xs (ry.take i)=G i::r
theorem lI(xs:List Nd)(ry:List BA):∃G,A8 G=AX xs ry:=by
 rcases List.eq_nil_or_concat ry with rfl|⟨l,b,rfl⟩;all_goals simp_all [AX]
theorem Vp{G:Nat->Nd×Nat}(h:Im xs ry G):(G 0).2=0/\xs[0]? =some (G 0).1:=by
 obtain⟨r,H⟩:=h 0<|N7 _;have e:=H;obtain⟨⟨t,I⟩,_⟩:=OW e;cases xs with
 |nil=>cases I
 |cons x xs=>
  have:A5 (x::xs)=(x,0)::xs.zipIdx 1:=rfl;grind
theorem JT{G:Nat->Nd×Nat}(h:Im xs ry G){nm:BA}(H:ry[i]? =some nm):
 (G i).1.kind=2/\((G i).2≠0->(G<|i+1).2≠0)/\((G i).2=0->(G<|i+1).2≠0->fk nm (G i).1.kids=none)/\((G i).2=0->(G<|i+1).2=0->fk nm (G i).1.kids=some (G<|i+1).1):=by
 have J:=(NE.1 H).1;obtain⟨r,O⟩:=h i oM;obtain⟨Z,I⟩:=h (i+1) oM;rw[Lv H]at I;obtain⟨ab,ad⟩:=lI xs<|ry.take i;grind [dJ,im]
theorem Ks{α:Type}{l:List α}{x:α}(h:l[n]? =some x):l.take (n+1)=l.take n++[x]:=by rw[CO,h];rfl
theorem OM{xs:List Nd}{ry:List BA}{G:Nat->Nd×Nat}(h:Im xs ry G):∀i,i<=ry.length->(∀j,j<=i->(G j).2=0)->Ct (ry.take i) (G 0).1=some (G i).1
 |0,_,_=>rfl
 |i+1,hi,hz=>by
  have e:ry[i]? =some ry[i]:=NA oM;obtain⟨H,_,_,I⟩:=JT h e;rw[Ks e,gT,OM h i oM λj J=>hz j oM];simp only[Option.bind_some];rw[NO (by simp[H])];exact I (hz i oM)<|hz (i+1)<|rP _
theorem Pd{us gs:List Rg}{xs:List Nd}{ry:List BA}{G:Nat->Nd×Nat}{U:Nd}(h:Im xs ry G):∀k,k<=ry.length->(∀j,j<=k->(G j).2=0)->GM us gs xs ry U k=.ok U
 |0,_,_=>rfl
 |k+1,hk,hz=>by
  obtain⟨r,H⟩:=h (k+1) hk;rw[GM,Pd h k oM λj I=>hz j oM,H];dsimp only;rw[NS<|hz (k+1)<|rP _]
theorem WQ{G:Nat->Nd×Nat}{U:Nd}(h:Im xs ry G){k:Nat}(H:k+1<=ry.length)(I:(G<|k+1).2≠0):GM us gs xs ry U (k+1)=match GM us gs xs ry U k with
 |.error f=>.error f
 |.ok V=>match BH true us gs (Dv (G<|k+1).1)with
  |none=>.error 11
  |some x=>A3 (some x) (ry.take<|k+1) V:=by
 obtain⟨r,J⟩:=h (k+1) H;rw[GM,J];cases GM us gs xs ry U k with
 |error f=>rfl
 |ok V=>dsimp only;rw[NO I]
def Fi(G:Nat->Nd×Nat)(ry:List BA)(k n:Nat):List<|Nd×BA:=(List.range' (k+1) n).map λi=>(Dv (G i).1,ry.getD (i-1) ⟨#[]⟩)
theorem Wt(G:Nat->Nd×Nat)(ry:List BA)(k n:Nat):Fi G ry k (n+1)=Fi G ry k n++[(Dv (G<|k+n+1).1,ry.getD (k+n) ⟨#[]⟩)]:=by grind [Fi,List.range'_concat]
theorem Zl{G:Nat->Nd×Nat}(h:Im xs ry G){k:Nat}(ab:k<ry.length)(ar:∀j,j<=k->(G j).2=0)(aw:(G<|k+1).2≠0):
 ∀n,k+n+1<=ry.length->GM us gs xs ry (G 0).1 (k+n+1)=match Dl us gs (Fi G ry k<|n+1)with
  |.error f=>.error f
  |.ok L=>A3 (some<|CW L) (ry.take<|k+1) (G 0).1:=by
 have a1:∀n,k+n+1<=ry.length->(G<|k+n+1).2≠0:=by
  intro n;induction n with
  |zero=>exact λ_=>aw
  |succ n I=>
   intro J;have e:ry[k+n+1]? =some ry[k+n+1]:=NA oM;exact(JT h e).2.1 (I oM)
 have ad:=NA ab;have az:=OM h k oM ar;have aA:=(JT h ad).1;have O:∀i (H:i<ry.length),ry.getD i ⟨#[]⟩=ry[i]:=λi H=>by simp[H]
 intro n;induction n with
 |zero=>
  intro J;show GM us gs xs ry (G 0).1 (k+1)=_;rw[WQ h J aw,Pd h k oM ar,Wt];rw[show Fi G ry k 0=[]from rfl];rw[MR];simp only[Dl,tl,O k ab];cases BH true us gs (Dv (G<|k+1).1)with
  |none=>rfl
  |some x=>
   dsimp only;by_cases ak:Bf ry[k]=false
   .rw[NS ak,Ks ad,(O4 az aA).1 ak]
   .rw[NO ak];rfl
 |succ n I=>
  intro J;have I:=I oM;have a6:=a1 (n+1) J;rw[WQ h J a6,show k+(n+1)=k+n+1 from rfl,I,Wt G ry k<|n+1,MR];cases hb:Dl us gs (Fi G ry k<|n+1)with
  |error f=>rfl
  |ok L=>
   dsimp only;obtain⟨al,a7,b3⟩:=YM hb;have a8:¬Bf ry[k]=false:=by
    have e:=a7 (Dv (G<|k+0+1).1,ry.getD (k+0) ⟨#[]⟩) (by
     unfold Fi;exact CQ.2 ⟨k+1,by simp,by simp⟩)
    have e:Bf (ry.getD k ⟨#[]⟩)=true:=e;rw[O k ab]at e;rw[e];simp
   have ba:=b3 (λp bb=>by
    obtain⟨i,H,rfl⟩:=CQ.1 bb;rw[List.mem_range'_1]at H;have e:ry[i]? =some ry[i]:=NA oM;exact⟨(fB _).trans (JT h e).1,Rn _⟩)
   have bd:L≠[]:=λe=>by
    rw[e]at al;have:=RX List.length al;simp[Fi]at this
   obtain⟨r,ao⟩:=(O4 (x:=CW L) az aA).2 a8;rw[<-Ks ad]at ao;rw[ao];dsimp only;cases BH true us gs (Dv (G<|k+n+1+1).1)with
   |none=>rfl
   |some x=>
    dsimp only;have ap:ry.take (k+(n+1)+1)=ry.take (k+1)++(L.tail.map Prod.snd++[ry[k+(n+1)]]):=by
     rw[List.map_tail,al];have e:(Fi G ry k<|n+1).map Prod.snd=(ry.drop k).take (n+1):=by
      unfold Fi;rw[tC];refine List.ext_getElem? λi=>?_;rw[R6,Kp]
      by_cases H:i<n+1
      .rw[NS H,Kq,NA (l:=List.range' (k+1)<|n+1) (by simpa using H)]
       simp only[List.getElem_range',tx,Function.comp];rw[show k+1+1*i-1=k+i by omega,O (k+i) oM,NA (l:=ry) oM]
      .rw[NO H,tP (by simpa using H)];rfl
     rw[e,<-List.drop_one,List.drop_take,List.drop_drop,Nat.add_sub_cancel];rw[show ry.take (k+(n+1)+1)=ry.take (k+1)++(ry.drop<|k+1).take (n+1) by rw[<-List.take_add,show k+1+(n+1)=k+(n+1)+1 by omega]];congr 1;have be:(ry.drop<|k+1)[n]? =some ry[k+(n+1)]:=by
      rw[Kq,show k+1+n=k+(n+1) by omega];exact NA oM
     rw[Ks be]
    have ap:ry.take (k+n+1+1)=ry.take (k+1)++(L.tail.map Prod.snd++[ry[k+(n+1)]]):=ap;rw[ap,Vx oS ao,VL bd ba,O (k+(n+1)) oM];by_cases Z:Bf ry[k+(n+1)]=false
    .rw[NS Z,NS Z]
    .rw[NO Z,NO Z]
mutual
def A0:Nd->Prop
 |.mk _ _ u g _ _ _ ks=>A4 u/\A4 g/\CJ ks
def CJ:List (BA×Nd)->Prop
 |[]=>True
 |(_,x)::l=>A0 x/\CJ l
end
theorem n8:∀{ks:List (BA×Nd)} {i:Nat} {n:BA} {x:Nd},CJ ks->ks[i]? =some (n,x)->A0 x:=by intro ks i n x;induction ks generalizing i n x<;>grind [CJ]
theorem mV(h:A0 x):CJ x.kids:=by
 obtain⟨k,m,u,g,o,rL,d,ks⟩:=x;rw[A0]at h;exact h.2.2
def Gx(l:List<|Nd×Nat):Prop:=∀q∈l,A0 q.1
theorem Gx.kid(h:Gx l)(nm:BA):Gx<|BU nm l:=λq H=>by
 obtain⟨p,I,e⟩:=C0.1 H;obtain⟨y,G,rfl⟩:=R2.1 e;have J:=h p I;unfold Ek at G;split at G
 .cases G
 .obtain⟨O,Z,rfl⟩:=R2.1 G
  obtain⟨n,z⟩:=O;exact n8 (mV J) Z
theorem Gx.sh(h:Gx l):Gx<|A8 l:=λq G=>h q<|Jr l q G
theorem iq(h:Gx<|A5 xs):∀ry:List BA,Gx<|AX xs ry:=by
 intro ry;unfold AX;generalize G:A8 (A5 xs)=l;have H:Gx l:=by rw[<-G];exact h.sh
 clear G;induction ry generalizing l with
 |nil=>exact H
 |cons n r I=>rw[Ko];exact I _ (H.kid n).sh
theorem Xl:∀{ks:Ay},fk m ks=some y->cntL (C9 m z ks)+cnt y=cntL ks+cnt z:=by intro ks;induction ks<;>grind [fk,C9,cntL]
theorem Xd(m:BA)(z:Nd):∀ks:Ay,cntL (EA m z ks)=cntL ks+cnt z
 |[]=>by rw[EA];simp[cntL]
 |(n,x)::l=>by
  rw[EA];split
  .rw[cntL,cntL];omega
  .have:=Xd m z l;rw[cntL,cntL];omega
theorem Wk(m:BA):∀ks:Ay,cntL (Gn m ks)<=cntL ks
 |[]=>by rw[Gn];exact rP _
 |(n,x)::l=>by
  rw[Gn];split
  .rw[cntL];omega
  .have:=Wk m l;rw[cntL,cntL];omega
theorem Ry(x:Nd)(ks:Ay):cnt (x.with ks)=cntL ks+1:=by obtain⟨k,m,u,g,o,rL,d,G⟩:=x;rfl
theorem KG(x:Nd):cnt x=cntL x.kids+1:=by obtain⟨k,m,u,g,o,rL,d,G⟩:=x;rfl
def Jz:Option Nd->Nat
 |none=>0
 |some x=>cnt x
theorem LQ{c:Option Nd}(P:Nd->Nd->Prop)(H:∀m n ks,n.kind=2->GF c m n.kids=.ok ks->P n (n.with ks))(I:∀m n y z,n.kind=2->fk m n.kids=some y->P y z->P n (n.with<|C9 m z n.kids)):
 ∀{l:List BA} {n r:Nd},A3 c l n=.ok r->P n r
 |[],n,r,h=>by rw[A3]at h;cases h
 |[m],n,r,h=>by
  rw[KD]at h;by_cases G:n.kind≠2
  .rw[NS G]at h;cases h
  rw[NO G]at h;cases hl:GF c m n.kids with
  |error f=>rw[hl]at h;cases h
  |ok ks=>
   rw[hl]at h;simp only[Except.map,C2]at h;subst h;exact H m n ks (by simpa using G) hl
 |m::J::l,n,r,h=>by
  rw[LW]at h;by_cases G:n.kind≠2
  .rw[NS G]at h;cases h
  rw[NO G]at h;cases hf:fk m n.kids with
  |none=>rw[hf]at h;cases h
  |some y=>
   rw[hf]at h;simp only at h;cases hc:A3 c (J::l) y with
   |error f=>rw[hc]at h;cases h
   |ok z=>
    rw[hc]at h;simp only[Except.map,C2]at h;subst h;exact I m n y z (by simpa using G) hf<|LQ P H I hc
theorem Mx{c:Option Nd}{G:Ay}(h:GF c m ks=.ok G):(∃x,c=some x/\Bf m=true/\((fk m ks=none/\G=EA m x ks)\/(fk m ks≠none/\G=C9 m x ks)))\/(c=none/\fk m ks≠none/\G=Gn m ks):=by
 cases c with
 |some x=>
  left
  grind [GF]
 |none=>
  grind [GF]
theorem Nk{c:Option Nd}{l:List BA}{n r:Nd}(h:A3 c l n=.ok r):cnt r<=cnt n+Jz c:=by
 refine LQ (c:=c) (λn r=>cnt r<=cnt n+Jz c) ?_ ?_ h
 .intro m n ks _ G
  rw[Ry,KG n];rcases Mx G with⟨x,rfl,_,⟨_,rfl⟩|⟨H,rfl⟩⟩|⟨rfl,_,rfl⟩
  .rw[Xd];show _<=_+cnt x;omega
  .obtain⟨y,I⟩:=Option.ne_none_iff_exists'.1 H
   have:=Xl (z:=x) I;show _<=_+cnt x;omega
  all_goals grind [Wk]
 all_goals grind [Xl,Ry,KG]
mutual
def Db:Nd->Prop
 |.mk _ _ _ _ _ rL _ ks=>rL.length<=1000/\Ei ks
def Ei:Ay->Prop
 |[]=>True
 |(_,x)::l=>Db x/\Ei l
end
theorem Yr:∀{ks:Ay},Ei ks->fk m ks=some y->Db y:=by intro ks;induction ks<;>grind [Ei,fk]
theorem Wz(G:Db z):∀{ks:Ay},Ei ks->Ei (C9 m z ks):=by intro ks;induction ks<;>grind [C9,Ei]
theorem kR(G:Db z):∀{ks:Ay},Ei ks->Ei (EA m z ks):=by intro ks;induction ks<;>grind [EA,Ei]
theorem jV:∀{ks:Ay},Ei ks->Ei (Gn m ks):=by intro ks;induction ks<;>grind [Gn,Ei]
theorem LD:Db (x.with ks)↔Db (x.with [])/\Ei ks:=by
 obtain⟨k,m,u,g,o,rL,d,G⟩:=x;show Db (.mk k m u g o rL d ks)↔Db (.mk k m u g o rL d [])/\Ei ks;grind [Db,Ei]
theorem IR(x:Nd):x.with x.kids=x:=by obtain⟨k,m,u,g,o,rL,d,ks⟩:=x;rfl
theorem oJ{c:Option Nd}{l:List BA}{n r:Nd}(h:A3 c l n=.ok r)(H:∀x,c=some x->Db x):Db n->Db r:=by
 refine LQ (c:=c) (λn r=>Db n->Db r) ?_ ?_ h
 .intro m n ks _ I G
  rw[<-IR n,LD]at G;rw[LD];refine⟨G.1,?_⟩;rcases Mx I with⟨x,rfl,_,⟨_,rfl⟩|⟨_,rfl⟩⟩|⟨rfl,_,rfl⟩
  .exact kR (H x rfl) G.2
  .exact Wz (H x rfl) G.2
  .exact jV G.2
 .intro m n y z _ J O G
  rw[<-IR n,LD]at G;rw[LD];exact⟨G.1,Wz (O<|Yr G.2 J) G.2⟩
mutual
theorem YS:∀(x:Nd),Db x->cnt x<=1000->A7 x
 |.mk _ _ _ _ _ rL d ks,ha,hc=>by
  rw[cnt]at hc;rw[Db]at ha;rw[A7];have:=JV ks;exact⟨ha.1,by omega,Yt ks ha.2 oM⟩
theorem Yt:∀(l:Ay),Ei l->cntL l<=1000->EO l
 |[],_,_=>by rw[EO];trivial
 |(n,x)::l,ha,hc=>by
  rw[cntL]at hc;rw[Ei]at ha;rw[EO];exact⟨YS x ha.1 oM,Yt l ha.2 oM⟩
end
mutual
theorem Zg:∀(x:Nd),AI x->Db x
 |.mk _ _ _ _ _ rL d ks,h=>by
  rw[AI]at h;rw[Db];have G:=h.1.1;exact⟨by omega,YG ks h.2.2⟩
theorem YG:∀(l:Ay),Co l->Ei l
 |[],_=>by rw[Ei];trivial
 |(n,x)::l,h=>by rw[Co]at h;rw[Ei];exact⟨Zg x h.2.1,YG l h.2.2⟩
end
theorem qe(h:A0 x):FL x:=by
 obtain⟨k,m,u,g,o,rL,d,ks⟩:=x;rw[A0]at h;exact⟨h.1,h.2.1⟩
theorem kY(h:FL x):FL<|Dv x:=by
 obtain⟨k,m,u,g,o,rL,d,ks⟩:=x;exact h
theorem eH(_hi:i<=ry.length)(h:AX xs (ry.take i)=[]):AX xs ry=[]:=by
 have e:=(CR i ry).symm;unfold AX at h⊢;rw[e,List.foldl_append,h];generalize ry.drop i=r;induction r with
 |nil=>rfl
 |cons n r G=>rw[Ko];exact G
theorem nU(h:AX xs ry≠[]):∃I,Im xs ry I:=by
 have H:∀i,∃q:Nd×Nat,i<=ry.length->∃r,AX xs (ry.take i)=q::r:=λi=>by
  by_cases G:i<=ry.length
  .cases hs:AX xs (ry.take i)with
   |nil=>exact absurd (eH G hs) h
   |cons q r=>exact⟨q,λ_=>⟨r,rfl⟩⟩
  .exact⟨(zN,0),λe=>absurd e G⟩
 exact⟨λi=>Classical.choose<|H i,λi G=>CA (H i) G⟩
theorem Bi.take{a:Option Addr}{l:List BA}(h:Bi c a l)(n:Nat):Bi c a<|l.take n:=by
 rcases h with e|⟨b,H,e,h⟩
 .subst e;exact .inl oS
 .refine .inr ⟨b,H,e,λi s G=>h i s ?_⟩
  rw[Kp]at G;split at G
  .exact G
  .cases G
theorem pk{G:Bool}(h:BH G us gs x=some y):cnt y=cnt x:=by rw[KG,KG,(LT h).2]
theorem WL(x:Nd):cnt (Dv x)=1:=by rw[KG,Rn];rfl
structure Fl where
 x:Nd
 h:Hd
 ly:Nat
theorem dL{α:Type}{l:List α}{x:α}(h:l[n]? =some x):l=l.take n++x::l.drop (n+1):=by grind [N9,CR]
def KQ(bare:Bool)(nm:BA)(l:List<|Nd×Nat):List<|Nd×Nat:=l.filterMap λq=>if bare=true/\q.2=0 then none else(Ek nm q.1).map λy=>(y,q.2)
def Nr(bare:Bool)(xs:List Nd)(ry:List BA)(i:Nat):List<|Nd×Nat:=match i with
 |0=>A8<|A5 xs
 |i+1=>match ry[i]? with
  |some nm=>A8<|KQ (bare&&decide (i+1=ry.length)) nm<|Nr bare xs ry i
  |none=>[]
theorem i7(nm:BA)(l:List<|Nd×Nat):KQ false nm l=BU nm l:=by
 unfold KQ BU;simp
end Go.Proofs.YtchpdmjlicmdaaaGreatDoor
