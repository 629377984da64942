/- Part: Hpf Hpg Hph Hpi Hpj Hpk Hpl. -/
import Derived.Test.YtchpdmjlicmdaaaGreatDoorFrxX
set_option maxRecDepth 100000
set_option maxHeartbeats 16000000
namespace Go.Proofs.YtchpdmjlicmdaaaGreatDoor
open Go.RowKit Go.Proofs.Tryz
variable {w w':World}{N b cap db hb m:Nat}{G L:Nat->Option Nat}{X:Nat->Nd}{B:Bx}{x0:Nd}{a:Option Addr}{zs:List Int}{F F' S:Nat->Prop}{p:Pl}{R:Nat->Pl}
theorem ia{bk bl:Nat}{ad:Nat->Option Nat}(h:HK w hb db bk cap N bl m L ad)(bn:J5 w ad X)(id:Int):
 Calls prog 7 #[pO hb 0,iN id] w λe w'=>((∃k b:Nat,k<5/\id=k/\ad k=some b/\∃h',e=.returned (.tuple #[At (X k) h',.nilIface])/\Am w'.cell? (X k) h')\/((∀k:Nat,k<5->id=k->ad k=none)/\e=.returned (.tuple #[GK,Ao 5])))/\Below w.heap.size w w':=by
 have be:Below w.heap.size w<|w.alloc AO:=(NB _ _).alloc (rP _) _;have bo:=(Kw (h.below be) id).1;have I:=hid be;have bp:=hid bn;have bf:=hid<|AC.zero w;obtain⟨⟨z0,bq,bs,z3,z4,z5,bu,bx⟩,ak⟩:=AC.zero w;obtain⟨bA,g1,bB,g3,g4,bC,bF,bG⟩:=f8 ak;have bH:Hid (∀o,8<=o->(w.alloc AO).cell? (aD w.heap.size o)=none):=λo al=>by
  have e:=tM w AO;simp only[World.cell?,e];exact C4 (by simpa using al)
 have bY:Hid<|(w.alloc AO).heap.size=w.heap.size+1:=ND _ _;go_enter func7,ntmps7;go_upto_region 1 with fail
 generalize w.alloc AO=ao at*;go_wp2_with fail
 go_call bo as e w' ⟨⟨k,b,hk,rfl,hg,rfl⟩|⟨hg,rfl⟩,rfl⟩
 .obtain⟨b9,B,x0,rM,cb,b0,b1,b2,_⟩:=bp k b hg
  have ap:=hid hg;have ar:=hid<|V7 (b0.below I) b1;rw[b2]at ar;replace cb:=Ai I _ _ cb;obtain⟨x,hx⟩:∃x,Hid<|X k=x:=⟨_,rfl⟩;rw[hx.out]at ar;obtain⟨G,H,u,g,o,rL,d,ks⟩:=x;go_wp2_with fail
  go_call ar as e w2 ⟨⟨h',rfl,hN'⟩,q⟩
  have b4:w.heap.size<ao.heap.size:=by rw[bY.out];omega
  have aw:=bf.out.below q;have az:Hid<|_/\_:=⟨hN',I.trans<|q.mono I.size⟩;have O:=aw.store (.mk G H u g o rL d ks) h';have Z:Below w.heap.size w<|As w2 w.heap.size (.mk G H u g o rL d ks) h':=az.2.trans<|Cb.below (rP _) az.2.size
  have bg:Hid<|Am (As w2 w.heap.size (.mk G H u g o rL d ks) h').cell? (.mk G H u g o rL d ks) h':=(Ie (S:=λj=>j==w.heap.size) (λj e=>by
   obtain rfl:j=w.heap.size:=by simpa using e
   exact MY aw.1 λo al=>(q.cell (p:=(aD w.heap.size o)) b4).trans<|bH o al) az.1).on λq v e=>by
   have bi:=BW _ _ _ _ e;have b6:=Gg e;exact(Cb.cell (NF _ _ bi) (by simpa using b6)).trans bi
  obtain⟨⟨z0,bq,bs,z3,z4,z5,bu,bx⟩,ak⟩:=aw;obtain⟨bA,g1,bB,g3,g4,bC,bF,bG⟩:=f8 ak;rw[show At (.mk G H u g o rL d ks) h'=Ba G H u g o rL d ks h' from rfl];go_wp2;obtain⟨b7,ab⟩:=Aq<|As w2 w.heap.size (.mk G H u g o rL d ks) h';rw[ab.out]at O Z bg;have J:=ab.out;simp only[As]at J;rw[J];obtain⟨aA,a1,a6,a7,a8,ba,bb,bd⟩:=O.1;refine NZ (v:=.tuple #[At (.mk G H u g o rL d ks) h',.nilIface]) (by simp[results,results7,go_sem,At,aA,a1,a6,a7,a8,ba,bb,bd]) rfl ⟨.inl ⟨k,b,hk,rfl,ap,h',by rw[hx.out],by rw[hx.out];exact bg⟩,Z⟩
 .rw[show Ao 5=.iface 101 (iN 5)from rfl]
  have ap:=hid hg;have O:=bf.out.store zN zH;have Z:Below w.heap.size w<|As ao w.heap.size zN zH:=I.trans<|Cb.below (rP _) I.size;go_wp2;obtain⟨b7,ab⟩:=Aq<|As ao w.heap.size zN zH;rw[ab.out]at O Z;have J:=ab.out;simp only[As,zN,zH]at J;simp only[RC]at J;rw[J];obtain⟨aA,a1,a6,a7,a8,ba,bb,bd⟩:=O.1;refine NZ (v:=.tuple #[GK,.iface 101<|iN 5]) (by simp[results,results7,go_sem,zH,aA,a1,a6,a7,a8,ba,bb,bd]) rfl ⟨.inr ⟨ap,rfl⟩,Z⟩
theorem Vt{f:Nd->Nat->Nd}(G:∀x k,(f (Gk x) k).kids=[]):∀(N:Nat) (l:Bc),tot l<=N->l≠[]->cnt (Dx f l)<=tot l
 |N,[],_,h=>absurd rfl h
 |0,q::r,h,_=>by have:=MU q.1;simp[tot]at h;omega
 |N+1,q::r,h,_=>by
  rw[Re,gG,G,CN,Xc];have H:=Pv (q::r) (C7 (q::r))<|Q9<|Ov _;rw[R5]at H;have O:((C7 (q::r)).map λnm=>cnt<|Dx f<|Ci (q::r) nm).sum<=((C7 (q::r)).map λnm=>tot<|Ci (q::r) nm).sum:=lT λnm I=>by
   have J:=MQ (q::r) nm;rw[R5]at J;exact Vt G N _ oM<|MI.1 I
  omega
theorem Vq{f:Nd->Nat->Nd}(J:∀x k,AI x->AI (f (Gk x) k))(O:∀x k,(f (Gk x) k).kids=[]):∀(N:Nat) (l:Bc),tot l<=N->l≠[]->(∀q∈l,AI q.1)->AI (Dx f l)
 |N,[],_,h,_=>absurd rfl h
 |0,q::r,h,_,_=>by have:=MU q.1;simp[tot]at h;omega
 |N+1,q::r,h,_,hl=>by
  rw[Re,O,CN];have H:=J q.1 q.2<|hl q<|N4 ..;have ab:Co ((C7 (q::r)).map λnm=>(nm,Dx f<|Ci (q::r) nm)):=oG λp G=>by
   obtain⟨nm,ad,rfl⟩:=CQ.1 G;have Z:=MI.1 ad;have ak:=MQ (q::r) nm;rw[R5]at ak;refine⟨?_,Vq J O N _ oM Z λq2 al=>?_⟩
   .cases e:Ci (q::r) nm with
    |nil=>exact absurd e Z
    |cons q2 ao=>
     obtain⟨p,G,I⟩:=Nb (show q2∈Ci (q::r) nm by rw[e];exact N4 ..);exact lv (hl p G) I
   .obtain⟨p,G,I⟩:=Nb al
    exact SD (hl p G) I
  generalize f (Gk q.1) q.2=y at H;obtain⟨k,m,u,g,o,rL,d,ap⟩:=y;rw[AI]at H;rw[Nd.with,AI];exact⟨H.1,H.2.1,ab⟩
theorem Yx(us gs:List Rg)(x:Nd)(k:Nat):(fW us gs (Gk x) k).kids=[]:=by
 obtain⟨G,m,u,g,o,rL,d,ks⟩:=x;unfold fW;split
 .rfl
 .cases h:BH false us gs (Gk<|.mk G m u g o rL d ks)with
  |none=>rfl
  |some y=>show y.kids=[];rw[(LT h).2];rfl
theorem qr(us gs:List Rg)(x:Nd)(k:Nat)(h:AI x):AI<|fW us gs (Gk x) k:=by
 obtain⟨H,m,u,g,o,rL,d,ks⟩:=x;rw[AI]at h;unfold fW;split
 .grind [Gk,AI,Co]
 .rw[Gk,BH]
  split
  .grind [AI,Co]
  .show AI zN;rw[zN,AI,Co];exact⟨⟨by decide,λr G=>by cases G⟩,by decide,trivial⟩
theorem pP{c:Nat}:∀{l:Bc},(∀q∈l,cnt q.1<=c)->tot l<=c*l.length:=by intro l;induction l<;>grind [tot,Nat.mul_succ]
theorem bI{rM:List Nd}(h:BN B x0 rM):AI (Dx (fW B.M.us B.M.gs)<|A8<|A5 B.xs)/\cnt (Dx (fW B.M.us B.M.gs)<|A8<|A5 B.xs)<=1000/\(Cy<|Dx (fW B.M.us B.M.gs)<|A8<|A5 B.xs).length<=60000000:=by
 have A:AI (Dx (fW B.M.us B.M.gs)<|A8<|A5 B.xs)/\cnt (Dx (fW B.M.us B.M.gs)<|A8<|A5 B.xs)<=400:=by
  have I:tot (A5 B.xs)<=60*(A5 B.xs).length:=pP λq G=>by
   have:=JX G;rw[h.xs]at this;rcases R1.1 this with e|e
   .rw[e];exact h.fine.cnt
   .exact SV (h.low _ e).1
  have J:(A5 B.xs).length<=5:=by
   have:=h.len;unfold A5;rw[List.length_zipIdx,h.xs,R5];omega
  have O:=Sv<|A5 B.xs;by_cases e:A8 (A5 B.xs)=[]
  .rw[e]
   refine⟨?_,by show 1<=400;omega⟩;show AI zN;rw[zN,AI,Co];exact⟨⟨by decide,λr H=>by cases H⟩,by decide,trivial⟩
  .refine⟨Vq (λx k hx=>qr _ _ x k hx) (Yx _ _) _ _ (rP _) e λq G=>?_,?_⟩
   .have:=JX (Jr _ _ G)
    rw[h.xs]at this;rcases R1.1 this with e|e
    .rw[e];exact h.fine.lil
    .exact(h.low _ e).2.1
   all_goals grind [Vt,Yx]
 have q:=LI _ A.1;grind
theorem Ff(w:World)(cs:Array Value)(t:TypeId):∃G,Hid (w.alloc (.cells cs t)=G)/\Hid (Below w.heap.size w G)/\Hid (G.heap.size=w.heap.size+1)/\G.heap[w.heap.size]? =some (.cells cs t (0,0)):=⟨_,rfl,(NB _ _).alloc (rP _) _,ND _ _,tM _ _⟩
theorem VF{rs:List Rg}(h:Rgs w a rs)(aA:rs.length<=6):
 Calls prog 95 #[.slice a rs.length cap] w λe w'=>(∃v M,e=.returned v/\M.length=3*rs.length/\NR w.heap.size w' v M)/\Below w.heap.size w w':=by
 obtain⟨a1,a6,a7,a8,ba⟩:=Kr Tryz.infoIn;obtain⟨N,ad⟩:=Aq rs.length;have bb:=hid h;rw[ad.out]at aA⊢;go_enter func95,ntmps95;go_wp2;go_loopw [3,8] (λv i wr=>∃k:Nat,k<=N/\i=iN k/\Hid (∃M:List Int,M.length=3*k/\NR w.heap.size wr v M)/\Hid (Below w.heap.size w wr)) (λ_ i _=>N-(intOf i).toNat)
 case atStart=>exact⟨0,N7 _,rfl,⟨[],rfl,CZ _ _ _ _⟩,NB _ _⟩
 case round=>
  obtain⟨k,bs,rfl,ak,G⟩:=hrel;by_cases bd:k<N
  .have be:decide ((k:Int)<(N:Int))=true:=NY oM
   have bu:(k:Int)<(N:Int):=by omega
   obtain⟨r,O⟩:∃r,rs[k]? =some r:=⟨_,NA (by rw[ad.out];exact bd)⟩;obtain⟨b,bx,rfl,bf⟩:=bb.resolve_left (λe=>by rw[e]at O;simp at O);obtain⟨al,ao,ap⟩:=bf k r O;replace al:=Ai G _ _ al;replace ao:=Ai G _ _ ao;replace ap:=Ai G _ _ ap;obtain⟨M,Z,I⟩:=ak.out;obtain⟨x,y,z⟩:=r;obtain⟨H,ar,bg,bA,ab⟩:=Ff wr #[iN x,iN y,iN z] 181;have bi:NR w.heap.size H u3 M:=by rw[<-ar.out];exact tL I _
   have c0:Ce H wr.heap.size 0<|iN x:=AG ab rfl;have c1:Ce H wr.heap.size 1<|iN y:=AG ab rfl;have c2:Ce H wr.heap.size 2<|iN z:=AG ab rfl;have bk:=hid λg e=>(tK I g e).1;have J:=hid<|G.trans<|bg.mono G.size;go_upto_region 5 with fail
   rw[ar.out];go_wp2_with (at_builtin;refine DP (H.alloc<|.cells #[iN x,iN y,iN z] 3) rfl (.tmp 12) (.tmp 19) 39 rfl w.heap.size 3 a1 (iN 0) 1 8 underlying39 a6 a7 a8 ba rfl oD u3 M.length (Cp M) rfl (tL bi _) (some<|aD H.heap.size 0) 3 3 (Cp [x,y,z]) rfl rfl (.inr ⟨_,rfl,dN _ _ _ _ _⟩) (LP _) (by unfold maxLen;omega) oM (by have:=J.out.size;rw[ND];omega) ?_)
   intro bl aw bn bo bB;have bp:Hid (∃M:List Int,M.length=3*(k+1)/\NR w.heap.size aw bl M):=⟨M++[x,y,z],by simp;omega,by show World.ownsRow ..;rw[Ow,N6,Z];exact bn⟩;have bq:Hid<|Below w.heap.size w aw:=(J.alloc J.size _).grown bo (by have:=J.out.size;rw[ND];omega) bk;go_wp2;go_roundw
   case rel=>exact⟨k+1,by omega,by go_num,bp.out,bq⟩
   case measure=>(simp[intOf];try omega)
  .obtain rfl:k=N:=by omega
   have be:decide ((k:Int)<(k:Int))=false:=NM oM;obtain⟨M,Z,I⟩:=ak.out;have az:Hid<|M.length=3*k/\NR w.heap.size wr u3 M:=⟨Z,I⟩;go_wp2;go_ret;exact⟨⟨_,M,rfl,az.1,az.2⟩,G⟩
abbrev NX(cb:Nat)(v0 G v4 H:Value)(W:World):Prop:=Ce W cb 0 v0/\Ce W cb 1 G/\Ce W cb 4 v4/\Ce W cb 7 H
theorem gN{ua ga ca lwa:Option Addr}{uc gc cc lwc:Nat}{us gs:List Rg}{cs:List Int}{cu cg ck q:Int}(b1:Rgs w ua us)(b2:Rgs w ga gs)(b4:us.length<=6)(b6:gs.length<=6)(b7:AV w ca cs)(b9:cs.length<=8)(ce:AV w lwa zs)(cf:zs.length<=6):
 Calls prog 56 #[Mk ua ga ca lwa uc gc cc zs.length lwc us gs cs cu cg ck q] w λe w'=>(∃aa ca L,e=.returned (.slice aa (L:List Int).length ca)/\L.length<=100/\AV w' aa L)/\Below w.heap.size w w':=by
 obtain⟨al,ao,be,a1,ad⟩:=Ff w #[.slice ua us.length uc,.slice ga gs.length gc,iN cu,iN cg,.slice ca cs.length cc,iN ck,iN q,.slice lwa zs.length lwc] 43;obtain⟨H,ch,bf,cl,co⟩:=Ff al #[iN q,iN cu,iN cg,iN ck] 3;have ad:=(bf.block w.heap.size (by have:=a1.out;omega)).trans ad;have bg:Ce H w.heap.size 0<|.slice ua us.length uc:=AG ad rfl;have bi:Ce H w.heap.size 1<|.slice ga gs.length gc:=AG ad rfl;have ds:Ce al w.heap.size 2<|iN cu:=AG (by rw[<-ao.out];exact tM _ _) rfl;have du:Ce al w.heap.size 3<|iN cg:=AG (by rw[<-ao.out];exact tM _ _) rfl;have ap:Ce H w.heap.size 4<|.slice ca cs.length cc:=AG ad rfl;have dw:Ce al w.heap.size 5<|iN ck:=AG (by rw[<-ao.out];exact tM _ _) rfl;have dx:Ce al w.heap.size 6<|iN q:=AG (by rw[<-ao.out];exact tM _ _) rfl;have bk:Ce H w.heap.size 7<|.slice lwa zs.length lwc:=AG ad rfl;have a6:Ji (w.heap.size+1) H (.slice (some<|aD (w.heap.size+1) 0) 4 4) 4:=⟨[q,cu,cg,ck],rfl,rfl,.inr ⟨w.heap.size+1,4,#[iN q,iN cu,iN cg,iN ck],rfl,rP _,by rw[<-a1.out];exact co,rP _,by unfold maxLen;omega,rfl,rfl⟩⟩;have bl:=hid<|be.trans<|bf.mono be.size;have J:Hid<|(Rgs w ua us/\us.length<=6)/\(Rgs w ga gs/\gs.length<=6)/\(AV w ca cs/\cs.length<=8)/\AV w lwa zs/\zs.length<=6:=⟨⟨b1,b4⟩,⟨b2,b6⟩,⟨b7,b9⟩,ce,cf⟩;go_enter func56,ntmps56;go_upto_region 1 with fail
 rw[ao.out];go_upto_region 2 with fail
 rw[ch.out,a1.out];obtain⟨cb,ar⟩:=Aq w.heap.size;obtain⟨G,bn⟩:=Aq<|cb+1;have bo:G<=H.heap.size/\cb<G:=by have O:=a1.out;have a8:=cl.out;have bp:=ar.out;have Z:=bn.out;omega
 have bq:=hid bo;rw[ar.out]at bg bi ap bk a6 bl⊢;rw[bn.out]at a6⊢;have I:Hid (∀W,Below G H W->NX cb (.slice ua us.length uc) (.slice ga gs.length gc) (.slice ca cs.length cc) (.slice lwa zs.length lwc) W/\Below cb w W):=λW hb=>by
  have c (i:Nat) {v:Value} (e:Ce H cb i v):=(hb.cell (p:=(aD cb i)) bo.2).trans e;exact⟨⟨c 0 bg,c 1 bi,c 4 ap,c 7 bk⟩,bl.trans<|hb.mono oM⟩
 obtain⟨v0,cr⟩:∃v0,Value.slice (some<|aD G 0) 4 4=v0:=⟨_,rfl⟩;rw[cr]at a6⊢;have bs:Hid (∀W v k,Below G H W->Ji G W v k->k<=700->(Calls prog 93 #[v,.slice ca cs.length cc] W λe w'=>∃aw,e=.returned aw/\Ji G w' aw (k+(1+cs.length))/\Below G W w')/\Calls prog 93 #[v,.slice lwa zs.length lwc] W λe w'=>∃aw,e=.returned aw/\Ji G w' aw (k+(1+zs.length))/\Below G W w'):=λW v k hb ak dy=>by
  have O:=J.out;have a8:=bq.out;have bp:=ar.out;have Z:=(I W hb).2;rw[<-bp]at Z;exact⟨Ze ak O.2.2.1.1 Z oM oM oM<|Rz a8.1 hb.size,Ze ak O.2.2.2.1 Z oM oM oM<|Rz a8.1 hb.size⟩
 have ba:Hid<|Below G H H.drew:=(NB _ _).drew;have T:NX cb (.slice ua us.length uc) (.slice ga gs.length gc) (.slice ca cs.length cc) (.slice lwa zs.length lwc) H.drew:=(I _ ba).1;have cx:Hid<|Ji G H.drew v0 4:=let⟨L,a7,ak⟩:=a6;⟨L,a7,World.ownsRow.drew ak⟩
 go_region_held3 (NX cb (.slice ua us.length uc) (.slice ga gs.length gc) (.slice ca cs.length cc)<|.slice lwa zs.length lwc) (assumption) (first|(go_at_call 93;(with_reducible refine rQ (bs.out _ _ _ ba.out cx.out oD).1 ?_);rintro e dz ⟨v3,rfl,cD,cF⟩;have c3:=hid cD;have bb:=hid<|ba.out.trans cF;have dT:=(I.out _ bb.out).1)|(go_at_call 93;(with_reducible refine rQ (bs.out _ _ _ bb.out c3.out (by have:=J.out.2.2.1.2;omega)).2 ?_);rintro e bu ⟨v4,rfl,c4,q4⟩;have bx:=hid c4;have bA:=hid<|bb.out.trans q4;have d0:=(I.out _ bA.out).1))
 go_upto_region 3 with fail
 have az:=hid<|bA.drew;have U:NX cb (.slice ua us.length uc) (.slice ga gs.length gc) (.slice ca cs.length cc) (.slice lwa zs.length lwc) bu.drew:=(I _ az).1;obtain⟨ap,bB⟩:=Aq<|4+(1+cs.length)+(1+zs.length);rw[bB.out]at bx;have c5:Hid<|Ji G bu.drew v4 ap:=let⟨L,a7,ak⟩:=bx.out;⟨L,a7,World.ownsRow.drew ak⟩
 have bC:Hid (∀W,Below G H W->(Calls prog 95 #[.slice ua us.length uc] W λe w'=>(∃v M,e=.returned v/\M.length=3*us.length/\NR W.heap.size w' v M)/\Below W.heap.size W w')/\Calls prog 95 #[.slice ga gs.length gc] W λe w'=>(∃v M,e=.returned v/\M.length=3*gs.length/\NR W.heap.size w' v M)/\Below W.heap.size W w'):=λW hb=>by
  have O:=J.out;have Z:=(I W hb).2;rw[<-ar.out]at Z;exact⟨VF (O.1.1.below Z) O.1.2,VF (O.2.1.1.below Z) O.2.1.2⟩
 have ab:Hid (ap<=20/\∀W,Below G H W->G<=W.heap.size):=⟨by have:=bB.out;have:=J.out;omega,λW hb=>Rz bq.1 hb.size⟩;go_region_held3 (NX cb (.slice ua us.length uc) (.slice ga gs.length gc) (.slice ca cs.length cc)<|.slice lwa zs.length lwc) (assumption) (first|(go_at_call 95;(with_reducible refine rQ (bC.out _ az.out).1 ?_);rintro e d1 ⟨⟨d2,d3,rfl,c6,c8⟩,q5⟩;have bF:=hid<|az.out.trans<|q5.mono<|ab.out.2 _ az.out;have d4:=(I.out _ bF.out).1;have c9:=hid<|YR c5.out c8 (by have:=J.out.1.2;omega) q5 (by have:=ab.out.1;omega)<|ab.out.2 _ az.out;have bG:=hid c6)|(go_at_call 93;(with_reducible refine rQ c9.out ?_);rintro e d5 ⟨d6,rfl,da,q6⟩;have aA:=hid<|bF.out.trans q6;have d7:=(I.out _ aA.out).1;have dd:=hid da)|(go_at_call 95;(with_reducible refine rQ (bC.out _ aA.out).2 ?_);rintro e d8 ⟨⟨d9,eb,rfl,de,dg⟩,q7⟩;have bH:=hid<|aA.out.trans<|q7.mono<|ab.out.2 _ aA.out;have ed:=(I.out _ bH.out).1;have dj:=hid de;have dk:=hid<|YR dd.out dg (by have:=J.out.2.1.2;omega) q7 (by have:=ab.out.1;have:=J.out.1.2;have:=bG.out;omega)<|ab.out.2 _ aA.out)|(go_at_call 93;go_call dk.out as e w8 ⟨v8,rfl,r8,q8⟩;have bY:=hid<|bH.out.trans q8;have ee:=(I.out _ bY.out).1;have dm:=hid r8))
 obtain⟨L,a7,dn⟩:=dm.out;obtain⟨b0,dp,rfl,dr⟩:=Nc dn;have bd:Hid<|AV w8 b0 L/\L.length<=100/\Below w.heap.size w w8:=⟨dr,by have:=ab.out.1;have:=J.out;have:=bG.out;have:=dj.out;omega,by rw[ar.out];exact(I _ bY).2⟩;go_wp2;go_ret;exact⟨⟨b0,dp,L,rfl,bd.2.1,bd.1⟩,bd.2.2⟩
theorem dC{az aA:Nat}{a1:Nat->Option Nat}(h:HK w hb db az cap N aA m L a1)(a6:KP w L X){cz:Nat}(a7:AV w a zs)(a8:zs.length<=6):
 Calls prog 47 #[pO hb 0,.slice a zs.length cz] w λe w'=>((∃xs la lc,e=.returned (.tuple #[.slice la (xs:List Nd).length lc,.nilIface])/\xs.length<=4/\CP w'.cell? la xs/\∀x∈xs,∃k b,L k=some b/\x=X k)\/e=.returned (.tuple #[nL,Ao 5]))/\Below w.heap.size w w':=by
 obtain⟨ba,bb,bd,be,bf⟩:=EL Tryz.infoNd;obtain⟨n,ad⟩:=Aq zs.length;have bg:=hid h;have bi:=hid a6;have bk:=hid a7;rw[ad.out]at a8⊢;have bl:Hid _:=bb;have bn:Hid _:=bd;have bo:Hid _:=be;have bp:Hid _:=bf;go_enter func47,ntmps47;go_wp2;go_loopw [6,13] (λv i wr=>∃(j:Nat) (T:List Fl),j<=n/\i=iN j/\T.length<=4/\Hid (FO w v T wr)/\Hid (∀f∈T,∃k b,L k=some b/\f.x=X k)) (λ_ i _=>n-(intOf i).toNat)
 case atStart=>exact⟨0,[],N7 _,rfl,N7 _,⟨NB _ _,CZ _ _ _ _,λf O=>by cases O⟩,λf O=>by cases O⟩
 case round=>
  obtain⟨j,T,ce,rfl,ar,G,ak⟩:=hrel;by_cases bq:j<n
  .have bs:decide ((j:Int)<(n:Int))=true:=NY oM
   have cf:(j:Int)<(n:Int):=by omega
   obtain⟨z,bu⟩:∃z,zs.getD j 0=z:=⟨_,rfl⟩;obtain⟨b,ch,rfl,bx⟩:=bk.resolve_left (λe=>by have:=ad.out;rw[e]at this;simp at this;omega);have al:=bx j (by rw[ad.out];exact bq);rw[bu]at al;have al:=Ai G.low _ _ al;have bA:=(Kw (bg.below G.low) z).2;go_wp2_with fail
   go_call bA as e w' ⟨⟨k,gb,bB,rfl,hg,rfl⟩|⟨_,rfl⟩,rfl⟩
   .obtain⟨H,aw,I⟩:=(bi k gb hg).1
    have bC:=hid hg;obtain⟨x,hx⟩:=Aq<|X k;rw[hx.out]at aw I;obtain⟨ua,uc,ao,_⟩:=Jm G.row;subst ao;by_cases cl:T.length<=3
    .have bF:decide ((T.length:Int)<=3)=true:=NY oM
     obtain⟨Z,ab,u,g,o,rL,d,ks⟩:=x;have J:=G.out.low;have co:Ce wr gb 3<|iN Z:=Ai J _ _<|I 0 _ rfl;have cr:Ce wr gb 4<|iN ab:=Ai J _ _<|I 1 _ rfl;have cx:Ce wr gb 5<|iN u:=Ai J _ _<|I 2 _ rfl;have cD:Ce wr gb 6<|iN g:=Ai J _ _<|I 3 _ rfl;have cF:Ce wr gb 7<|.bool o:=Ai J _ _<|I 4 _ rfl;have c3:Ce wr gb 8<|.slice H.aa rL.length H.ca:=Ai J _ _<|I 5 _ rfl;have c4:Ce wr gb 9<|.string d:=Ai J _ _<|I 6 _ rfl;have c5:Ce wr gb 10<|.slice H.ak ks.length H.ck:=Ai J _ _<|I 7 _ rfl
     have bG:Hid (Am (Ag wr.cell? λk=>(Value.slice ua T.length uc).ownBlock==some k) (.mk Z ab u g o rL d ks) H):=aw.on (Se J λk bB=>by
      simp;intro e;have:=(G.row.lt k e).1;omega)
     go_wp2_with (at_builtin;refine DP (wr.alloc<|Aw Z ab u g o rL d ks H) rfl (.tmp 29) (.tmp 34) 115 rfl w.heap.size 31 ba (GK) 8 104 underlying115 bl bn bo bp rfl oD (.slice ua T.length uc) T.length (BK T) rfl (G.row.alloc _) (some<|aD wr.heap.size 0) 1 1 (Bq (.mk Z ab u g o rL d ks) H) rfl rfl (.inr ⟨_,rfl,λq t bH=>by rw[Ef,RT];exact Ph wr _ H _ q t bH⟩) (LL _ _) (by unfold maxLen;omega) oM (by have:=G.out.low.size;rw[ND];omega) ?_)
     intro bY b0 b1 b2 b4;have b6:Hid<|FO w bY (T++[(⟨.mk Z ab u g o rL d ks,H,0⟩:Fl)]) b0:=(G.below<|Hw wr _).app (f:=⟨.mk Z ab u g o rL d ks,H,0⟩) (Am.on bG<|Du<|Hw wr _) (by rw[Nh,N6];simpa [BK]using b1) b2 (by rw[ND];exact b4);go_wp2;go_roundw
     case rel=>exact⟨j+1,_,by omega,by go_num,by rw[N6,List.length_singleton];omega,b6,λf O=>(Cq.1 O).elim (ak f) λe=>⟨k,gb,bC,by rw[CD.1 e];exact hx.symm⟩⟩
     case measure=>(simp[intOf];try omega)
    .have bF:decide ((T.length:Int)<=3)=false:=NM oM
     go_wp2;go_roundw
     case rel=>exact⟨j+1,T,by omega,by go_num,ar,G,ak⟩
     case measure=>(simp[intOf];try omega)
   .have ap:=hid G.low
    rw[show Ao 5=.iface 101 (iN 5)from rfl];go_wp2;go_ret2;exact⟨.inr rfl,ap⟩
  .have bs:decide ((j:Int)<(n:Int))=false:=NM oM
   obtain⟨ua,uc,ao,_⟩:=Jm G.row;subst ao;have b7:Hid (∃xs la lc,Ending.returned (.tuple #[.slice ua T.length uc,.nilIface])=.returned (.tuple #[.slice la (xs:List Nd).length lc,.nilIface])/\xs.length<=4/\CP wr.cell? la xs/\∀x∈xs,∃k b,L k=some b/\x=X k):=by
    refine⟨T.map Fl.x,ua,uc,by rw[CE],by rw[CE];exact ar,?_,λx hx=>by
     obtain⟨f,O,rfl⟩:=CQ.1 hx;exact ak f O⟩
    by_cases e:T=[]
    .rw[e];exact .inl rfl
    .obtain⟨g,c,b9,_,q⟩:=Zr G e
     cases b9;exact q
   have ap:=hid G.low;go_wp2;go_ret2;exact⟨.inl b7,ap⟩
abbrev Dc(hb db G k:Nat):Prop:=k=hb\/k=db\/k=G
def EI(F:Nat->Prop)(a:Option Addr):Prop:=∀p,a=some p->¬F p.block
theorem EI.sub(h:EI F a)(G:∀k,S k->F k):EI S a:=λp e s=>h p e<|G _ s
theorem LY{P:Prop}{n:Nat}(H:∀k,F' k->F k\/n<=k)(h:P\/EI F a)(G:P\/∀p,a=some p->p.block<n):P\/EI F' a:=
 h.elim .inl λh=>G.imp id λG p e s=>(H _ s).elim (h p e) λq=>by have:=G p e;omega
theorem YZ{rs:List Rg}(h:Rgs w a rs)(I:Mv S w w')(G:rs=[]\/EI S a):Rgs w' a rs:=by
 rcases G with e|G
 .exact .inl e
 rcases h with e|⟨b,H,rfl,J⟩
 .exact .inl e
 refine .inr ⟨b,H,rfl,λk r O=>?_⟩;obtain⟨Z,g1,ab⟩:=J k r O;have q {o:Nat} {v:Value} (e:Ce w b o v):Ce w' b o v:=(I.cell (p:=(aD b o)) (NF _ _ e)<|G (aD b H) rfl).trans e;grind
theorem SI(h:AV w a zs)(O:Mv S w w')(G:zs=[]\/EI S a):AV w' a zs:=by
 rcases G with e|G
 .exact .inl e
 rcases h with e|⟨b,H,rfl,I⟩
 .exact .inl e
 exact .inr ⟨b,H,rfl,λi J=>(O.cell (p:=(aD b<|H+i)) (NF _ _<|I i J)<|G (aD b H) rfl).trans<|I i J⟩
theorem KT{x:Nd}{h:Hd}(H:Am w.cell? x h)(I:Mv S w w')(J:∀k,S k->Dn w.cell? k):Am w'.cell? x h:=by
 classical
 exact(Ie (S:=λk=>decide (S k)) (λk e=>J k<|C6 e) H).on λp v e=>by
  have G:=BW _ _ _ _ e;exact(I.cell (NF _ _ G) (λs=>by have:=Gg e;simp[s]at this)).trans G
theorem A6.mv(h:A6 w b B)(G:Mv S w w')(O:∀k,S k->Dn w.cell? k)(hb:¬S b)(Z:EI S B.la)(H:B.cs=[]\/EI S B.ca)(ab:B.M.us=[]\/EI S B.M.ua)(ad:B.M.gs=[]\/EI S B.M.ga):A6 w' b B:=by
 have q (o:Nat):w'.cell? (aD b o)=w.cell? (aD b o):=G.cell (p:=(aD b o)) h.lt hb;obtain⟨c0,c1,c2,ak,al,ao,ap,c7⟩:=h.cells;refine⟨⟨(q _).trans c0,(q _).trans c1,(q _).trans c2,(q _).trans ak,(q _).trans al,(q _).trans ao,(q _).trans ap,(q _).trans c7⟩,λo ar=>(q o).trans<|h.end8 o ar,λo=>(G.frozen (p:=(aD b o)) h.lt hb).trans<|h.fz o,⟨YZ h.maps.u G ab,YZ h.maps.g G ad,h.maps.ul,h.maps.gl,h.maps.cu,h.maps.cg,h.maps.ou,h.maps.og⟩,?_,h.lcap,SI h.grp G H,h.gcap,h.au,h.ag,h.ac⟩;rcases h.lay with e|⟨j,I,e,f,H⟩
 .exact .inl e
 .refine .inr ⟨j,I,e,f,λi x J=>⟨GR.2 λn v aw=>?_,KT (H i x J).2 G O⟩⟩
  have g:=GR.1 (H i x J).1 n v aw;exact(G.cell (p:=aD j<|I+i*8+n) (NF _ _ g)<|Z (aD j I) e).trans g
def Jg(F:Nat->Prop)(b:Nat)(B:Bx):Prop:=¬F b/\EI F B.la/\(B.cs=[]\/EI F B.ca)/\(B.M.us=[]\/EI F B.M.ua)/\(B.M.gs=[]\/EI F B.M.ga)
abbrev Lg(w:World)(B:Bx):Prop:=(∀p,B.M.ua=some p->p.block<w.heap.size)/\∀p,B.M.ga=some p->p.block<w.heap.size
theorem Jg.mv(f:Jg F b B)(h:A6 w b B)(H:Mv S w w')(G:∀k,S k->F k)(I:∀k,S k->Dn w.cell? k):A6 w' b B:=
 h.mv H I (λs=>f.1<|G _ s) (f.2.1.sub G) (f.2.2.1.imp id λq=>q.sub G) (f.2.2.2.1.imp id λq=>q.sub G) (f.2.2.2.2.imp id λq=>q.sub G)
theorem Jg.up{rM:List Nd}(f:Jg F b B)(h:A6 w b B)(H:BN B x0 rM)(I:Lg w B)(G:∀k,F' k->F k\/w.heap.size<=k):Jg F' b B:=
 ⟨λs=>(G _ s).elim f.1 λq=>by have:=h.lt;omega,(LY (P:=False) G (.inr f.2.1) (.inr λp e=>by
  rcases h.lay with q|⟨j,O,q,g,J⟩
  .rw[H.xs]at q;cases q
  .rw[e]at q;cases q
   exact NF _ _<|GR.1 (J 0 x0 (by rw[H.xs];rfl)).1 0 _<|PY _ _)).resolve_left id,LY G f.2.2.1<|PB h.grp,LY G f.2.2.2.1<|.inr I.1,LY G f.2.2.2.2<|.inr I.2⟩
def Gu(w:World)(F:Nat->Prop)(G:Nat)(p:Pl)(b:Nat)(B:Bx)(x0:Nd)(rM:List Nd)(la:Option Addr)(lc:Nat)(zs:List Int):Prop:=
 (w.cell? (aD G 3)=some (.slice la zs.length lc)/\w.cell? (aD G 4)=some (pO b 0))/\(AV w la zs/\zs.length<=100/\(zs=[]\/EI F la))/\(A6 w b B/\BN B x0 rM/\B.q<=64)/\Jg F b B/\Lg w B/\(2<=p.l.length/\p.l.length<=p.c/\p.c<=9223372036854775807)/\(p.fr=0\/p.fr=((p.l.length / 2:Nat):Int))
def Mo(w:World)(F:Nat->Prop)(H:Nat->Option Nat)(R:Nat->Pl):Prop:=∀k G,H k=some G->∃b B x0 rM la lc zs,Gu w F G (R k) b B x0 rM la lc zs
theorem Gu.mv{G:Nat}{rM:List Nd}{la:Option Addr}{lc:Nat}(h:Gu w F G p b B x0 rM la lc zs)(H:Mv S w w')(I:∀k,S k->F k)(ab:∀k,S k->Dn w.cell? k)(ad:¬F G):Gu w' F G p b B x0 rM la lc zs:=by
 obtain⟨⟨ak,al⟩,⟨ao,ap,J⟩,⟨ar,aw,az⟩,O,Z,aA⟩:=h;have q {i:Nat} {v:Value} (e:Ce w G i v):Ce w' G i v:=(H.cell (p:=(aD G i)) (NF _ _ e) λs=>ad<|I _ s).trans e;exact⟨⟨q ak,q al⟩,⟨SI ao H (J.imp id λf=>f.sub I),ap,J⟩,⟨O.mv ar H I ab,aw,az⟩,O,⟨λp e=>N1 (Z.1 p e) H.size,λp e=>N1 (Z.2 p e) H.size⟩,aA⟩
theorem Gu.up{H:Nat}{rM:List Nd}{la:Option Addr}{lc:Nat}(h:Gu w F H p b B x0 rM la lc zs)(hb:Below w.heap.size w w')(I:∀k,F' k->F k\/w.heap.size<=k):Gu w' F' H p b B x0 rM la lc zs:=by
 obtain⟨⟨ab,ad⟩,⟨J,ak,al⟩,⟨O,Z,ao⟩,ap,G,ar⟩:=h;exact⟨⟨Ai hb _ _ ab,Ai hb _ _ ad⟩,⟨J.below hb,ak,LY I al<|PB J⟩,⟨O.below hb,Z,ao⟩,ap.up O Z G I,⟨λp e=>N1 (G.1 p e) hb.size,λp e=>N1 (G.2 p e) hb.size⟩,ar⟩
theorem Mo.rM(h:Mo w F G R):∃H,Z9 w G H:=by
 obtain⟨H,I⟩:=Classical.axiomOfChoice (r:=λ(k:Nat) (z:List Int)=>∀b,G k=some b->∃la lc,Ce w b 3 (.slice la z.length lc)/\AV w la z/\z.length<=100) λk=>by
  cases e:G k with
  |none=>exact⟨[],λb q=>by cases q⟩
  |some J=>
   obtain⟨b,B,x0,rM,la,lc,zs,g⟩:=h k J e;exact⟨zs,λb q=>by cases q;exact⟨la,lc,g.1.1,g.2.1.1,g.2.1.2.1⟩⟩
 exact⟨H,λk b e=>I k b e⟩
theorem Mo.boxes(h:Mo w F G R):∃X,J5 w G X:=by
 obtain⟨X,I⟩:=Classical.axiomOfChoice (r:=λ(k:Nat) (z:Nd)=>∀H,G k=some H->∃b B x0 rM,Ce w H 4 (pO b 0)/\A6 w b B/\BN B x0 rM/\Dx (fW B.M.us B.M.gs) (A8<|A5 B.xs)=z/\AI z/\cnt z<=1000/\(Cy z).length<=60000000) λk=>by
  cases e:G k with
  |none=>exact⟨zN,λb q=>by cases q⟩
  |some H=>
   obtain⟨b,B,x0,rM,la,lc,zs,g⟩:=h k H e;exact⟨_,λJ q=>by cases q;exact⟨b,B,x0,rM,g.1.2,g.2.2.1.1,g.2.2.1.2.1,rfl,bI g.2.2.1.2.1⟩⟩
 exact⟨X,λk b e=>I k b e⟩
theorem J5.below(h:J5 w G X)(hb:Below w.heap.size w w'):J5 w' G X:=λk H e=>by
 obtain⟨b,B,x0,rM,I,J,O⟩:=h k H e;exact⟨b,B,x0,rM,Ai hb _ _ I,J.below hb,O⟩
mutual
theorem Yj{up:Bool}:∀(x:Nd) (G:Nat),Gy up G x->A0 x
 |.mk k m u g o rL d ks,G,h=>by
  rw[Gy]at h;obtain⟨_,_,c,e⟩:=Ye h.2.1;rw[A0];exact⟨by unfold A4;omega,by unfold A4;omega,X9 ks _ _ h.2.2⟩
theorem X9{up:Bool}:∀(ks:Ay) (G:Nat) (p:Option BA),GJ up G p ks->CJ ks
 |[],_,_,_=>by rw[CJ];trivial
 |(n,x)::l,G,p,h=>by
  rw[GJ]at h;rw[CJ];exact⟨Yj x _ h.2.2.1,X9 l _ _ h.2.2.2⟩
end
theorem KP.mv(h:KP w L X)(G:Mv S w w')(I:∀k,S k->Dn w.cell? k)(J:∀i b,L i=some b->¬S b):KP w' L X:=λi b e=>by
 obtain⟨⟨O,Z,H⟩,r⟩:=h i b e;have ab:b<w.heap.size:=NF _ _<|H 0 _<|PY _ _;exact⟨⟨O,KT Z G I,λn v ad=>(G.cell (p:=⟨b,3+n,none⟩) ab<|J i b e).trans<|H n v ad⟩,r⟩
theorem Fp.lt(h:Fp w p):p.l=[]\/∀a,p.a=some a->a.block<w.heap.size:=PB h.ints
theorem Cc.mvS{I:Nat}{Q:Nat->Pl}(h:Cc w hb db I N L G Q R)(H:Mv S w w')(J:∀i b,pq L G i=some b->¬S b)(a2:∀i,(pq Q R i).l=[]\/EI S (pq Q R i).a):Cc w' hb db I N L G Q R:=by
 refine⟨h.h5,λk=>?_,λk=>(h.r k).mv H λb e=>J (5+k) b (by rw[I5];exact e),λi=>⟨SI (h.ok i).ints H<|a2 i,(h.ok i).len,(h.ok i).num⟩,h.nn,h.top,h.nd,h.dj,h.aw,h.ap⟩;by_cases O:k<5
 .exact(h.q k).mv H λb e=>J k b (by rw[P7 O];exact e)
 .obtain⟨Z,ab⟩:=(h.h5 k oM).1;rw[Z,ab];rfl
structure Bu (F:Nat->Prop) (w:World) (hb db rb N side m:Nat) (L G:Nat->Option Nat) (Q R:Nat->Pl) (X:Nat->Nd):Prop where
 k:HK w hb db rb (64*N) N side m L G
 l:Cc w hb db rb N L G Q R
 t:KP w L X
 g:Mo w F G R
 fa:∀i b,pq L G i=some b->¬F b
 fp:∀i,(pq Q R i).l=[]\/EI F (pq Q R i).a
 fo:∀k,Dc hb db rb k->F k
 fl:∀k,F k->k<w.heap.size
section
variable {F:Nat->Prop} {w w':World} {hb db rb N side m s' m' j:Nat} {L G:Nat->Option Nat} {Q R:Nat->Pl} {X:Nat->Nd}
theorem Bu.faL(h:Bu F w hb db rb N side m L G Q R X){i:Nat}(e:L i=some b):¬F b:=by
 rcases Nat.lt_or_ge i 5 with q|q
 .exact h.fa i b (by rw[P7 q];exact e)
 .rw[(h.l.h5 i q).1.1]at e;cases e
theorem Bu.faG(h:Bu F w hb db rb N side m L G Q R X){i:Nat}(e:G i=some b):¬F b:=h.fa (5+i) b (by rw[I5];exact e)
theorem Bu.own(h:Bu F w hb db rb N side m L G Q R X):∀k,Dc hb db rb k->Dn w.cell? k:=λk e=>(h.k.nostr k e).row
theorem Bu.mvT(h:Bu F w hb db rb N side m L G Q R X)(H:Mv S w w')(I:∀k,S k->F k)(J:∀k,S k->Dn w.cell? k):KP w' L X:=h.t.mv H J λ_ _ e s=>h.faL e<|I _ s
theorem Bu.mvG(h:Bu F w hb db rb N side m L G Q R X)(H:Mv S w w')(I:∀k,S k->F k)(J:∀k,S k->Dn w.cell? k):Mo w' F G R:=λi O e=>by
 obtain⟨b,B,x0,rM,la,lc,zs,g⟩:=h.g i O e;exact⟨b,B,x0,rM,la,lc,zs,g.mv H I J<|h.faG e⟩
theorem Bu.same(h:Bu F w hb db rb N side m L G Q R X)(k:HK w' hb db rb (64*N) N s' m' L G)(l:Cc w' hb db rb N L G Q R)(H:Mv (Dc hb db rb) w w'):Bu F w' hb db rb N s' m' L G Q R X:=
 ⟨k,l,h.mvT H h.fo h.own,h.mvG H h.fo h.own,h.fa,h.fp,h.fo,λk e=>N1 (h.fl k e) H.size⟩
theorem Bu.scr(h:Bu F w hb db rb N side m L G Q R X)(I:Mv S w w')(H:∀k,S k->F k/\¬Dc hb db rb k/\Dn w.cell? k):Bu F w' hb db rb N side m L G Q R X:=
 ⟨h.k.mv I (λs=>(H _ s).2.1<|.inl rfl) (λs=>(H _ s).2.1<|.inr<|.inl rfl) λs=>(H _ s).2.1<|.inr<|.inr rfl,h.l.mvS I (λi b e s=>h.fa i b e (H _ s).1) (λi=>(h.fp i).imp id λq=>q.sub λk s=>(H k s).1),h.mvT I (λk s=>(H k s).1) λk s=>(H k s).2.2,h.mvG I (λk s=>(H k s).1) λk s=>(H k s).2.2,h.fa,h.fp,h.fo,λk e=>N1 (h.fl k e) I.size⟩
theorem Bu.up(h:Bu F w hb db rb N side m L G Q R X)(H:Below w.heap.size w w')(I:∀k,F' k->F k\/w.heap.size<=k)(J:∀k,F k->F' k)(O:∀k,F' k->k<w'.heap.size):Bu F' w' hb db rb N side m L G Q R X:=by
 refine⟨h.k.below H,h.l.mv (Mv.of H) (S:=λ_=>False) λ_ e=>e.elim,h.t.mv (Mv.of H) (S:=λ_=>False) (λ_ e=>e.elim) λ_ _ _ e=>e,λi Z e=>?_,λi b e s=>(I _ s).elim (h.fa i b e) λq=>?_,λi=>LY I (h.fp i) (h.l.ok i).lt,λk e=>J k<|h.fo k e,O⟩
 .obtain⟨b,B,x0,rM,la,lc,zs,g⟩:=h.g i Z e
  exact⟨b,B,x0,rM,la,lc,zs,g.up H I⟩
 .have ab:b<w.heap.size:=by
   unfold pq at e;split at e
   .obtain⟨⟨ad,_,J⟩,_⟩:=h.t i b e
    exact NF _ _<|J 0 _<|PY _ _
   .obtain⟨_,_,_,_,_,_,_,g⟩:=h.g _ b e
    exact NF _ _ g.1.1
  omega
theorem Bu.below(h:Bu F w hb db rb N side m L G Q R X)(H:Below w.heap.size w w'):Bu F w' hb db rb N side m L G Q R X:=h.up H (λ_ e=>.inl e) (λ_ e=>e) λk e=>N1 (h.fl k e) H.size
theorem Bu.less(h:Bu F w hb db rb N side m L G Q R X)(H:∀k,F' k->F k)(I:∀k,Dc hb db rb k->F' k):Bu F' w hb db rb N side m L G Q R X:=by
 refine⟨h.k,h.l,h.t,λi J e=>?_,λi b e s=>h.fa i b e<|H _ s,λi=>(h.fp i).imp id λq=>q.sub H,I,λk e=>h.fl k<|H k e⟩;obtain⟨b,B,x0,rM,la,lc,zs,O,⟨a2,a3,a4⟩,a5,⟨f1,f2,f3,f4,f5⟩,Z⟩:=h.g i J e;exact⟨b,B,x0,rM,la,lc,zs,O,⟨a2,a3,a4.imp id λq=>q.sub H⟩,a5,⟨λs=>f1<|H _ s,f2.sub H,f3.imp id λq=>q.sub H,f4.imp id λq=>q.sub H,f5.imp id λq=>q.sub H⟩,Z⟩
theorem Bu.setG(h:Bu F w hb db rb N side m L G Q R X){o:Option Nat}(I:Mv (Dc hb db rb) w w')(k:HK w' hb db rb (64*N) N s' m' L<|AK G j o)(l:Cc w' hb db rb N L (AK G j o) Q<|AK R j p)(Z:∀H,o=some H->¬F H/\∃b B x0 rM la lc zs,Gu w' F H p b B x0 rM la lc zs)(J:p.l=[]\/EI F p.a):Bu F w' hb db rb N s' m' L (AK G j o) Q (AK R j p) X:=by
 refine⟨k,l,h.mvT I h.fo h.own,λi H e=>?_,λi b e=>?_,λi=>?_,h.fo,λk e=>N1 (h.fl k e) I.size⟩
 .unfold AK at e⊢
  by_cases O:i=j
  .grind
  .rw[NO O]at e⊢;exact h.mvG I h.fo h.own i H e
 .rw[Ps]at e
  unfold AK at e;split at e
  .grind
  .exact h.fa i b e
 .rw[Ps]
  unfold AK;split
  .exact J
  .exact h.fp i
theorem Bu.setL(h:Bu F w hb db rb N side m L G Q R X){o:Option Nat}{X':Nat->Nd}(J:j<5)(H:Mv (Dc hb db rb) w w')(k:HK w' hb db rb (64*N) N s' m' (AK L j o) G)(l:Cc w' hb db rb N (AK L j o) G (AK Q j p) R)(Z:∀i,i≠j->X' i=X i)(ad:∀I,o=some I->¬F I/\Jd w' I (X' j)/\AI (X' j)/\cnt (X' j)<=1000/\A0 (X' j))(ab:p.l=[]\/EI F p.a):Bu F w' hb db rb N s' m' (AK L j o) G (AK Q j p) R X':=by
 refine⟨k,l,λi b e=>?_,h.mvG H h.fo h.own,λi b e=>?_,λi=>?_,h.fo,λk e=>N1 (h.fl k e) H.size⟩
 .unfold AK at e
  by_cases O:i=j
  .grind
  .rw[NO O]at e;rw[Z i O];exact h.mvT H h.fo h.own i b e
 .rw[Pz J]at e
  unfold AK at e;split at e
  .grind
  .exact h.fa i b e
 .rw[Pz J]
  unfold AK;split
  .exact ab
  .exact h.fp i
end
theorem SU{rM:List Nd}(h:BN B x0 rM)(H:B.q<=64):(DS (He B.u B.g B.k B.cs)++DS (Cy x0)).size<=5000/\(Cy x0).length<=60000000:=by
 have G:=h.quo;have I:=h.cred.2;unfold EP FM at G;rw[NS h.ok,Jo]at G;grind [Jo,Si]
theorem aU(n:Nat)(J:n<=64)(w:World):Calls prog 51 #[iN n] w λe w'=>e=.returned (iN ((2*(n+1):Nat):Int))/\w=w':=by
 have G:IntKind.i64.wrap ((n:Int)+1)=(n:Int)+1:=DQ oM oM;have H:IntKind.i64.wrap (2*((n:Int)+1))=2*((n:Int)+1):=DQ oM oM;have I:((2*(n+1):Nat):Int)=2*((n:Int)+1):=by omega
 rw[I];go_enter func51,ntmps51;go_wp2;go_ret;exact⟨by simp only;rfl,rfl⟩
abbrev Qx(cb:Nat)(v0 G:Value)(cu cg:Int)(v4:Value)(ck q:Int)(H:Value)(W:World):Prop:=Ce W cb 0 v0/\Ce W cb 1 G/\Ce W cb 2 (iN cu)/\Ce W cb 3 (iN cg)/\Ce W cb 4 v4/\Ce W cb 5 (iN ck)/\Ce W cb 6 (iN q)/\Ce W cb 7 H
theorem bW{J az:Nat}{H:Nat->Option Nat}{Q:Nat->Pl}(h:Bu F w hb db J N az m L H Q R X)(eb:m<=600000){ua ga ca lwa:Option Addr}{uc gc cc lwc:Nat}{us gs:List Rg}{cs:List Int}{cu cg ck q:Int}(ed:Rgs w ua us)(b1:Rgs w ga gs)(ee:us.length<=6)(ef:gs.length<=6)(eg:us.length<=uc)(ej:gs.length<=gc)(ek:∀r∈us,r.ok)(em:∀r∈gs,r.ok)(b2:AV w ca cs)(en:cs.length<=8)(eo:A4 cu/\A4 cg)(bs:AV w lwa zs)(c8:zs.length<=6):
 Calls prog 21 #[pO hb 0,Mk ua ga ca lwa uc gc cc zs.length lwc us gs cs cu cg ck q] w λe w'=>((∃k G p ep a6,k<5/\H k=none/\e=.returned (.tuple #[iN (k:Nat),.nilIface])/\a6<=m+22000/\Bu F w' hb db J N ep a6 L (AK H k<|some G) Q (AK R k p) X/\(p.l.length:Int)=2*(q+1))\/(∃E,E≠0/\e=.returned (.tuple #[iN 0,Ao E]))/\Bu F w' hb db J N az m L H Q R X)/\Mv (Dc hb db J) w w':=by
 obtain⟨bd,eq,al,er,es⟩:=Ff w #[.slice ua us.length uc,.slice ga gs.length gc,.int .i64 cu,.int .i64 cg,.slice ca cs.length cc,.int .i64 ck,.int .i64 q,.slice lwa zs.length lwc] 43;obtain⟨cb,b4⟩:=Aq w.heap.size;have be:Hid (∀W,Below bd.heap.size bd W->Qx cb (.slice ua us.length uc) (.slice ga gs.length gc) cu cg (.slice ca cs.length cc) ck q (.slice lwa zs.length lwc) W):=λW hb=>by
  have e:=(hb.block w.heap.size (by have:=er.out;omega)).trans es;rw[b4.out]at e;exact⟨AG e rfl,AG e rfl,AG e rfl,AG e rfl,AG e rfl,AG e rfl,AG e rfl,AG e rfl⟩
 have ba:=hid h;have bf:=hid<|h.below al;have I:Hid ((Rgs w ua us/\Rgs w ga gs)/\((us.length<=6/\gs.length<=6)/\us.length<=uc/\gs.length<=gc)/\((∀r∈us,r.ok)/\∀r∈gs,r.ok)/\(AV w ca cs/\cs.length<=8)/\(A4 cu/\A4 cg)/\AV w lwa zs/\zs.length<=6):=⟨⟨ed,b1⟩,⟨⟨ee,ef⟩,eg,ej⟩,⟨ek,em⟩,⟨b2,en⟩,eo,bs,c8⟩;have eu:=RZ bf.k;have ev:=hid<|dC (cz:=lwc) bf.k bf.t (bs.below al) c8;have ew:=hid eb;have bu:Hid (∀W E,Below bd.heap.size bd W->E≠0->((∃c9,c9≠0/\Ending.returned (.tuple #[.int .i64 0,Ao E])=.returned (.tuple #[.int .i64 0,Ao c9]))/\Bu F W hb db J N az m L H Q R X)/\Mv (Dc hb db J) w W):=λW E aA b6=>⟨⟨⟨E,b6,rfl⟩,bf.below aA⟩,(Mv.of al).trans<|Mv.of aA⟩;have hL:=(be bd<|NB _ _).2.2.2.2.2.2.2
 go_enter func21,ntmps21;go_upto_region 1 with fail
 rw[eq.out,b4.out];go_wp2_with fail
 refine rQ eu ?_;rintro e w' ⟨rfl,rfl⟩;go_wp2_with fail
 refine rQ ev ?_;rintro e bx ⟨⟨xs,la,lc,rfl,hM,ey,ez⟩|rfl,q2⟩;rotate_left
 .have O:=hid (bu bx 5 q2 oD)
  rw[show Ao 5=Value.iface 101 (.int .i64 5)from rfl]at O⊢;go_wp2;go_ret2;exact⟨.inr O.1,O.2⟩
 have b7:=hid q2;have b9:=al.out.trans<|q2.mono al.size;have da:Hid (∀x∈xs,(AI x/\cnt x<=1000)/\A0 x):=λx hx=>by
  obtain⟨k,b,e,rfl⟩:=ez x hx;have t:=ba.out.t k b e;exact⟨⟨t.2.1,t.2.2.1⟩,t.2.2.2⟩
 have eB:=hid (jX (lwa:=lwa) (lwn:=zs.length) (lwc:=lwc) (ck:=ck) (q:=q) (cap:=lc) (cc:=cc) (I.1.1.below b9) (I.1.2.below b9) (by have:=I.out.2.1.1.1;omega) (by have:=I.out.2.1.1.2;omega) I.2.1.2.1 I.2.1.2.2 I.2.2.1.1 I.2.2.1.2 (I.2.2.2.1.1.below b9) I.2.2.2.1.2 I.2.2.2.2.1 ey oM (λx hx=>(da x hx).1) λx hx=>(da x hx).2);obtain⟨t0,hN,hO,t3,t4,t5,dd,eD⟩:=be bx q2;go_wp2_with fail
 refine rQ eB ?_;rintro e ao ⟨b6,eE⟩;have ab:=hid<|b7.trans<|eE.mono b7.size;rcases b6 with⟨E,rfl,de,_⟩|⟨b,B,y,rfl,hP,eF,eL,_,_,eX,_,ce,e0,e1,e2,e3,e4⟩
 .have e5:=AP (n:=E) rfl de
  have O:=bu.out ao E ab de;rw[e5]at O⊢;have O:=hid O;go_wp2;go_ret2;exact⟨.inr O.1,O.2⟩
 obtain⟨n,bg⟩:∃n:Nat,Hid<|q=n/\1<=n/\n<=64:=⟨q.toNat,by have:=ce.q1;have:=ce.q2;show _/\_;omega⟩;have ad:Hid<|A6 ao b B/\BN B y xs/\B.q<=64/\Jg F b B/\Lg ao B:=by
  have dg (k:Nat) (e:F k):k<bx.heap.size:=N1 (ba.fl k e)<|Rz al.size b7.size;have bA {a:Option Addr} (q:∀p,a=some p->bx.heap.size<=p.block):EI F a:=λp e s=>by have:=q p e;have:=dg _ s;omega
  obtain⟨e6,hQ,T,e7,_,dj,dk,_⟩:=e0
  exact⟨eF,eL,by rw[eX];exact ce.q2,⟨λs=>by have:=dg _ s;omega,bA λp e=>by
   have q:=(tK dk.row e6 rfl).1;rw[e7]at e;cases e
   exact Rz dj q,e1.imp id bA,e3.imp id bA,e4.imp id bA⟩,e2⟩
 have ap:=hid<|bf.below ab;have e8:=hid (VO λj bb=>NT ap.k.box bb).1;go_wp2_with fail
 refine rQ e8 ?_;rintro e w' ⟨⟨j,bb,e9,_,rfl⟩|⟨_,rfl⟩,rfl⟩;rotate_left
 .have O:=hid (bu ao 2 ab oD)
  go_wp2;go_ret2;exact⟨.inr O.1,O.2⟩
 have hR:decide ((j:Int)<0)=false:=NM oM;obtain⟨_,_,_,_,_,_,dd,_⟩:=be ao ab;rw[bg.out.1]at dd;obtain⟨ar,bi⟩:=Aq<|2*(n+1);have dm:=aU n bg.2.2 ao;have fa:=hid<|UI ap.k ap.l.q ap.l.r ap.l.oks.1 ap.l.oks.2 (λk _=>by have:=ap.out.l.usl k;have:=ap.out.l.nn;omega) ap.l.nn ar (by have:=bi.out;have:=bg.out;omega);rw[bi.out]at dm;go_wp2_with fail
 refine rQ dm ?_;rintro e w' ⟨rfl,rfl⟩;go_wp2_with fail
 refine rQ fa ?_;rintro e fb ⟨⟨_,rfl⟩|⟨a,cp,rfl,fc,fd,fe,ff⟩,q4⟩
 .have O:=hid (bu fb 13 (ab.trans<|q4.mono ab.size) oD)
  rw[show Ao 13=Value.iface 101 (.int .i64 13)from rfl]at O⊢;go_wp2;go_ret2;exact⟨.inr O.1,O.2⟩
 have dn:=hid<|ab.trans<|q4.mono ab.size;have fg:=hid fc;have fh:=hid fe;have dp:=hid ff;have bB:=hid fd;have cf:=hid q4;have ch:=SU ad.2.1 ad.2.2.1;have bC:=QY (ad.1.below q4) ad.2.1.xs (by have:=ad.out.2.1.cred.2;omega) ad.2.1.fine.lil (by have:=ad.out.2.1.fine.cnt;omega) ch.2 ad.2.1.ok;obtain⟨s,fo⟩:=Aq<|DS (He B.u B.g B.k B.cs)++DS (Cy y);rw[fo.out]at bC ch;have dr:=hid ch.1;have bC:=hid bC;go_wp2_with fail
 refine rQ bC ?_;rintro e ds ⟨rfl,q5⟩;have bk:=hid<|dn.trans<|q5.mono dn.size;obtain⟨_,_,_,_,_,_,_,eD⟩:=be ds bk;have fp:=hid<|Uq lwc (I.2.2.2.2.2.1.below<|al.trans<|bk.mono al.size) (by have:=I.out.2.2.2.2.2.2;omega);have du:=hid q5;go_wp2_with fail
 refine rQ fp ?_;rintro e bl ⟨⟨bn,cl,rfl,_,dw,hS⟩,q6⟩;have hT:=hid<|bk.trans<|q6.mono bk.size;have co:=hid<|du.trans<|q6.mono du.size;obtain⟨a8,fs,cr,hU,a1⟩:=Ff bl #[.slice a ar cp,.int .i64 0,.int .i64 s.size,.slice bn zs.length cl,.pointer<|some ⟨b,0,none⟩] 75
 have dx:Hid (AV bl bn zs/\∀p,bn=some p->zs≠[]->ds.heap.size<=p.block):=⟨dw.imp id λ⟨g,e,_,b2⟩=>⟨g,0,e,λi bo=>by rw[RT];exact b2 i bo⟩,λp e ft=>by
  obtain⟨g,dy,b1,_⟩:=dw.resolve_left ft;rw[e]at dy;cases dy
  exact b1⟩
 go_upto_region 17 with fail
 rw[fs.out];obtain⟨G,dz⟩:=Aq bl.heap.size;rw[dz.out]at a1⊢;obtain⟨aw,bF⟩:=Aq<|DI (DK Q R 10) ar<|N-200;have bp:=fg.out;rw[bF.out]at bp;have dT:=fh.out;rw[bF.out]at dT;obtain⟨zb,zo,rfl,fx⟩:=dT.resolve_left (λe=>by rw[e]at bp;have:=bi.out;simp at bp;omega);have d0:=hid<|co.trans<|cr.mono co.size;have a7:=hid<|cf.trans<|d0.mono cf.size;have bq:=hid<|ap.below a7;have d1:∀i,i<aw.length->a8.cell? ⟨zb,zo+i,none⟩=some (.int .i64<|aw.getD i 0):=λi bo=>Ai d0 _ _<|fx i bo;have gb:ao.heap.size<=G:=by rw[<-dz.out];exact Rz cf.size co.size
 have gg:Et a8 (some G) ⟨some ⟨zb,zo,none⟩,aw,cp,0,s.size⟩:=⟨by rw[bp];exact AG a1 rfl,AG a1 rfl,AG a1 rfl⟩;have gl:=hid<|(VP (w:=ao) (p:=⟨some ⟨zb,zo,none⟩,aw,cp,0,s.size⟩) (b:=G) (n:=ar) (i:=5+j) bq.l oM bF.symm (.inr ⟨zb,zo,rfl,d1⟩) dp ap.k.lt gg gb).2 j bb rfl;have hV:=ap.out.k.lt;have d2:=dp.out _ rfl;have d3:=LZ (DK Q R 10) ar<|N-200;rw[bF.out]at d3;have cx:Hid<|(∀z∈aw,0<=z/\z<N)/\aw.length=ar/\ar=2*(n+1)/\ar<=130:=⟨λz bs=>by have:=(d3.2.2 z bs).1;have:=bq.out.l.nn;omega,bp,bi.symm,by have:=bi.out;have:=bg.out;omega⟩;have bG:Hid<|(¬Dc hb db J G/\¬Dc hb db J a8.heap.size/\¬Dc hb db J cb)/\zb≠db/\zb≠J:=by
  have go:=Cw a1;have gq:=ba.out.k.lt;have gr:=b4.out;have hW:ao.heap.size<=zb:=d2;show(¬(_\/_\/_)/\¬(_\/_\/_)/\¬(_\/_\/_))/\_;omega
 obtain⟨hX,Z,gu,gv,hY,f8,d4,d5⟩:=qj a8 (db:=db) (sd:=az) L H bb G;have bH:=hid<|(bq.below d5).below (NB Z.heap.size Z).drew;have ak:=hid<|d5.drew;have gw:=hid (gl.mv (Mv.of ak) (S:=λ_=>False) λ_ e=>e.elim);have gx:Gu Z.drew F G ⟨some ⟨zb,zo,none⟩,aw,cp,0,s.size⟩ b B y xs bn cl zs:=by
  have cD:Below ao.heap.size ao Z.drew:=a7.trans<|ak.mono a7.size;have gy:Below bl.heap.size bl Z.drew:=cr.trans<|ak.mono cr.size;have r:=cx.out;refine⟨⟨Ai ak _ _<|AG a1 rfl,Ai ak _ _<|AG a1 rfl⟩,⟨dx.1.below gy,by have:=I.out.2.2.2.2.2.2;omega,?_⟩,⟨ad.1.below cD,ad.2.1,ad.2.2.1⟩,ad.2.2.2.1,⟨λp e=>N1 (ad.2.2.2.2.1 p e) cD.size,λp e=>N1 (ad.2.2.2.2.2 p e) cD.size⟩,⟨by show 2<=aw.length;omega,by have:=bB.out.1;show aw.length<=cp;omega,bB.2⟩,.inl rfl⟩;exact(Classical.em<|zs=[]).imp id λgz p e s=>by
   have:=dx.out.2 p e gz;have:=ba.out.fl _ s;have dj:=al.out.size;have dk:=bk.out.size;omega
 have g0:=hid gx;have cF:Hid<|¬F G/\¬F zb:=by
  have go:ao.heap.size<=zb:=d2;have gq:=al.out.size;have gr:=ab.out.size;exact⟨λs=>by have:=ba.out.fl _ s;omega,λs=>by have:=ba.out.fl _ s;omega⟩
 have d6:Hid (∀W aa c3 (LA:List Int),Below Z.drew.heap.size Z.drew W->AV W aa LA->LA.length<=100->Calls prog 54 #[.pointer<|some ⟨hb,0,none⟩,.int .i64 ((6272+j*1216:Nat):Int),.slice aa LA.length c3,.agg #[.slice (some ⟨zb,zo,none⟩) ar cp,.int .i64 0,.int .i64 s.size],.string s,.agg<|Cz db az L<|AK H j<|some G] W λe w'=>e=.returned .nilIface/\(∃a6,a6<=m+2000+s.size/\HK w' hb db J (64*N) N (1-az) a6 L (AK H j<|some G)/\Cc w' hb db J N L (AK H j<|some G) Q (AK R j ⟨some ⟨zb,zo,none⟩,aw,cp,0,s.size⟩))/\Mv (λb=>b=hb\/b=db\/b=J) W w'):=λW aa c3 LA aA g2 hZ=>by
  have r:=cx.out;have e:=Vr (rec:=6272+j*1216) (ca:=c3) (s:=s) (cp:=cp) (bH.k.below aA) (gw.mv (Mv.of aA) (S:=λ_=>False) λ_ e=>e.elim) (λi bo=>Ai (ak.trans<|aA.mono ak.size) _ _<|d1 i bo) r.1 bG.2 ⟨by have:=bB.out.1;omega,bB.2⟩ oM (by have:=ew.out;omega) (by have:=dr.out;omega) g2 oM (by have:=bq.out.l.nn;omega);rw[r.2.1]at e;exact e
 obtain⟨g5,d7⟩:=Aq ((6272+j*1216:Nat):Int);have g6:Hid (∀W,Calls prog 55 #[.int .i64 j] W λe w'=>e=.returned (.int .i64 g5)/\W=w'):=λW=>by rw[<-d7.out];exact(UO j bb W).2
 rw[d7.out]at d6;have g7:Hid (∀W,Below Z.drew.heap.size Z.drew W->Calls prog 56 #[Mk ua ga ca lwa uc gc cc zs.length lwc us gs cs cu cg ck q] W λe w'=>(∃aa ca L,e=.returned (.slice aa (L:List Int).length ca)/\L.length<=100/\AV w' aa L)/\Below W.heap.size W w'):=λW aA=>by
  have bY:Below w.heap.size w W:=al.trans<|(ab.trans<|(a7.trans<|(ak.trans<|aA.mono ak.size).mono a7.size).mono ab.size).mono al.size;exact gN (I.1.1.below bY) (I.1.2.below bY) I.2.1.1.1 I.2.1.1.2 (I.2.2.2.1.1.below bY) I.2.2.2.1.2 (I.2.2.2.2.2.1.below bY) I.2.2.2.2.2.2
 obtain⟨⟨x0,g8,g9,ha,hc,he,hf,hg,hh,hi,hj,hk,hl⟩,_⟩:=H6 d4;have c4:Ke G a8.heap.size (.slice (some ⟨zb,zo,none⟩) ar cp) (.pointer<|some ⟨db,0,none⟩) (.bool false) (.int .i64 az) (pV<|L 0) (pV<|L 1) (pV<|L 2) (pV<|L 3) (pV<|L 4) (pV<|AK H j (some G) 0) (pV<|AK H j (some G) 1) (pV<|AK H j (some G) 2) (pV<|AK H j (some G) 3) (pV<|AK H j (some G) 4) 0 s.size Z.drew/\Qx cb (.slice ua us.length uc) (.slice ga gs.length gc) cu cg (.slice ca cs.length cc) ck q (.slice lwa zs.length lwc) Z.drew:=⟨⟨⟨Ai ak _ _<|AG a1 rfl,Ai ak _ _<|AG a1 rfl,Ai ak _ _<|AG a1 rfl⟩,x0,g8,g9,ha,hc,he,hf,hg,hh,hi,hj,hk,hl⟩,be _<|ab.trans<|(a7.trans<|ak.mono a7.size).mono ab.size⟩;have h0:=hid d4;obtain⟨⟨h1,h2,h3,h4,h5,h6,h7,h8,h9,ih,iw,iz,i0⟩,_⟩:=H6 bq.k.box;have hm:Hid<|Mv (Dc hb db J) w Z.drew:=(Mv.of al).trans<|(Mv.of ab).trans<|(Mv.of a7).trans<|Mv.of ak;have d8:Hid (∀W,Mv (Dc hb db J) Z.drew W->(Ke G a8.heap.size (.slice (some ⟨zb,zo,none⟩) ar cp) (.pointer<|some ⟨db,0,none⟩) (.bool false) (.int .i64 az) (pV<|L 0) (pV<|L 1) (pV<|L 2) (pV<|L 3) (pV<|L 4) (pV<|AK H j (some G) 0) (pV<|AK H j (some G) 1) (pV<|AK H j (some G) 2) (pV<|AK H j (some G) 3) (pV<|AK H j (some G) 4) 0 s.size W/\Qx cb (.slice ua us.length uc) (.slice ga gs.length gc) cu cg (.slice ca cs.length cc) ck q (.slice lwa zs.length lwc) W)):=λW aA=>by
  have k {i:Nat} {v:Value} (e:Z.drew.cell? ⟨cb,i,none⟩=some v):W.cell? ⟨cb,i,none⟩=some v:=(aA.cell (p:=⟨cb,i,none⟩) (NF _ _ e) bG.1.2.2).trans e;obtain⟨hn,ho,hp,hq,hr,hs,ht,hu⟩:=c4.2;exact⟨c4.1.mv aA bG.1.1 bG.1.2.1,k hn,k ho,k hp,k hq,k hr,k hs,k ht,k hu⟩
 have i1:(0:Int)<=j:=by omega
 have i2:(j:Int)<5:=by omega
 go_upto_region 18 with fail
 rw[gu.out];go_upto_region 19 with fail
 rw[gv.out];go_region_held3 (λW=>Ke G a8.heap.size (.slice (some ⟨zb,zo,none⟩) ar cp) (.pointer<|some ⟨db,0,none⟩) (.bool false) (.int .i64 az) (pV<|L 0) (pV<|L 1) (pV<|L 2) (pV<|L 3) (pV<|L 4) (pV<|AK H j (some G) 0) (pV<|AK H j (some G) 1) (pV<|AK H j (some G) 2) (pV<|AK H j (some G) 3) (pV<|AK H j (some G) 4) 0 s.size W/\Qx cb (.slice ua us.length uc) (.slice ga gs.length gc) cu cg (.slice ca cs.length cc) ck q (.slice lwa zs.length lwc) W) (first|with_reducible exact c4|with_reducible exact hv|with_reducible exact hw) (first|(go_at_call 55;(with_reducible refine rQ (g6.out _) ?_);rintro e i4 ⟨rfl,rfl⟩)|(go_at_call 56;(with_reducible refine rQ (g7.out _<|NB _ _) ?_);rintro e d9 ⟨⟨aa,cA,LA,rfl,hy,hz⟩,c5⟩;have hv:=d8.out d9<|Mv.of c5;have hA:=hid<|d6.out d9 aa cA LA c5 hz hy;have hB:=hid c5)|(go_at_call 54;(with_reducible refine rQ hA.out ?_);rintro e c6 ⟨rfl,⟨a6,hC,hD,hE⟩,hG⟩;have b0:=hid ((Mv.of hB.out).trans hG:Mv (Dc hb db J) Z.drew c6);have hw:=d8.out c6 b0.out;have hH:=hid hD;have hI:=hid hE;have hJ:=hid hC))
 all_goals
  have hK:Hid<|Bu F c6 hb db J N (1-az) a6 L (AK H j<|some G) Q (AK R j ⟨some ⟨zb,zo,none⟩,aw,cp,0,s.size⟩) X:=bH.setG b0.out hH hI (λgc e=>by
   cases e;exact⟨cF.1,b,B,y,xs,bn,cl,zs,g0.mv b0.out bH.fo bH.own cF.1⟩) (.inr λp e=>by cases e;exact cF.2)
  go_wp2;go_ret2;exact⟨.inl ⟨j,G,_,1-az,a6,bb,e9,rfl,by have:=hJ.out;have:=dr.out;omega,hK,by show(aw.length:Int)=_;have:=cx.out;have:=bg.out;omega⟩,hm.out.trans b0.out⟩
theorem fJ(h:A6 w b B)(O:∀p,B.M.ua=some p->p.block<w.heap.size)(Z:∀p,B.M.ga=some p->p.block<w.heap.size):
 Calls prog 43 #[pO b 0] w λe w'=>(∃J,e=.returned (pO J 0)/\w.heap.size<=J/\A6 w' J B)/\Below w.heap.size w w':=by
 obtain⟨ab,ad,I,ao,G⟩:=Ff w #[.slice B.M.ua B.M.us.length B.M.uc,.slice B.M.ga B.M.gs.length B.M.gc,.slice B.la B.xs.length B.lc,iN B.u,iN B.g,.slice B.ca B.cs.length B.cc,iN B.k,iN B.q] 119
 have ak:Hid<|A6 ab w.heap.size B:=⟨⟨AG G rfl,AG G rfl,AG G rfl,AG G rfl,AG G rfl,AG G rfl,AG G rfl,AG G rfl⟩,λo al=>by
  simp only[World.cell?,G];exact C4 (by simpa using al),λo=>Cr G o,h.maps.below I,h.lay.on<|Ai I,h.lcap,h.grp.below I,h.gcap,λp H=>by have:=O p H;omega,λp H=>by have:=Z p H;omega,(PB h.grp).imp id λf p H=>by have:=f p H;omega⟩
 obtain⟨c0,c1,c2,ap,ar,aw,az,c7⟩:=h.cells;go_enter func43,ntmps43;go_upto_region 2 with fail
 rw[ad.out];go_wp2;go_ret;exact⟨⟨_,rfl,rP _,ak⟩,I⟩
theorem YK(w:World)(p:Pl):∃G,Hid (w.alloc (.cells #[.slice p.a p.l.length p.c,iN p.fr,iN p.sz] 72)=G)/\Hid (Below w.heap.size w G)/\Hid (G.heap.size=w.heap.size+1)/\Ce G w.heap.size 0 (.slice p.a p.l.length p.c)/\Ce G w.heap.size 1 (iN p.fr)/\Ce G w.heap.size 2 (iN p.sz):=by
 obtain⟨G,a,b,c,d⟩:=Ff w #[.slice p.a p.l.length p.c,iN p.fr,iN p.sz] 72;grind [AG]
theorem iW(H:p.l.length<=400):Calls prog 136 #[.agg #[.slice p.a p.l.length p.c,iN p.fr,iN p.sz]] w λe w'=>e=.returned (iN ((p.l.length / 2:Nat):Int))/\Below w.heap.size w w':=by
 obtain⟨Z,G,I,ab,c0,_,_⟩:=YK w p;obtain⟨n,J⟩:=Aq p.l.length;rw[J.out]at H c0 G⊢;have O:(Int.tdiv (n:Int) 2)=((n / 2:Nat):Int):=by rw[Int.tdiv_eq_ediv_of_nonneg oM];omega
 go_enter func136,ntmps136;go_upto_region 1 with fail
 rw[G.out];go_wp2;go_ret;exact⟨by simp only;rfl,I⟩
abbrev Qw(b:Nat)(v0:Value)(fr sz:Int)(W:World):Prop:=Ce W b 0 v0/\Ce W b 1 (iN fr)/\Ce W b 2 (iN sz)
theorem mj{x y z:Value}{t:TypeId}(h:w.heap[b]? =some (.cells #[x,y,z] t (0,0)))(u v r:Value):(((w.setCell (aD b 0) u).setCell (aD b 1) v).setCell (aD b 2) r).heap[b]? =some (.cells #[u,v,r] t (0,0)):=by
 have k {w:World} {c:Array Value} {i:Nat} {v:Value} (h:w.heap[b]? =some (.cells c t (0,0))):=Lib.heap_setCell_same (i:=i) h v;refine Eq.trans (k<|k<|k h) ?_;simp
theorem gH(a8:p.l.length<=400)(bo:p.fr=0\/p.fr=((p.l.length / 2:Nat):Int))(n:Nat):Calls prog 87 #[.agg #[.slice p.a p.l.length p.c,iN p.fr,iN p.sz],iN n] w λe w'=>e=.returned (.agg #[.slice p.a p.l.length p.c,iN<|((p.l.length / 2:Nat):Int)-p.fr,iN n])/\Below w.heap.size w w':=by
 obtain⟨ao,ba,a1,Z,c0,c1,c2⟩:=YK w p;obtain⟨ab,bb,ad,bp,bd⟩:=Ff ao #[nL,iN 0,iN 0] 72;obtain⟨b,O⟩:=Aq w.heap.size;have bq:Hid<|b<ao.heap.size:=by show _<_;have:=Z.out;have:=O.out;omega
 rw[O.out]at c0 c1 c2;have T:Qw b (.slice p.a p.l.length p.c) p.fr p.sz ab.drew:=⟨Ai ad _ _ c0,Ai ad _ _ c1,Ai ad _ _ c2⟩;have ak:=iW (p:=p) (w:=ab.drew) a8;obtain⟨I,ap⟩:=Aq ((p.l.length / 2:Nat):Int);rw[ap.out]at ak⊢;have ak:=hid ak;have bs:IntKind.i64.wrap (I-p.fr)=I-p.fr:=DQ (by have:=ap.out;omega) (by have:=ap.out;omega);have ar:=hid bd;have a6:=hid<|a1.trans<|ad.mono a1.size;go_enter func87,ntmps87;go_upto_region 1 with fail
 rw[ba.out,bb.out,O.out];obtain⟨G,al⟩:=Aq ao.heap.size;rw[al.out]at ar;rw[show b+1=G by have:=al.out;have:=Z.out;have:=O.out;omega];have H:Hid<|b≠G:=by have:=al.out;have:=Z.out;have:=O.out;show b≠G;omega
 go_region_held3 (Qw b (.slice p.a p.l.length p.c) p.fr p.sz) (first|assumption|exact⟨(BO H.out).trans<|(BO H.out).trans<|(BO H.out).trans aw.1,(BO H.out).trans<|(BO H.out).trans<|(BO H.out).trans aw.2.1,(BO H.out).trans<|(BO H.out).trans<|(BO H.out).trans aw.2.2⟩) (first|(go_at_call 136;go_call ak.out as e w3 ⟨rfl,q3⟩;have aw:Qw b (.slice p.a p.l.length p.c) p.fr p.sz w3:=⟨Ai q3 _ _ T.1,Ai q3 _ _ T.2.1,Ai q3 _ _ T.2.2⟩;have J:=(q3.block G<|Cw ar.out).trans ar.out;have bu:Ce w3 G 0<|nL:=AG J rfl;have bx:Ce w3 G 1<|iN 0:=AG J rfl;have bA:Ce w3 G 2<|iN 0:=AG J rfl;have f0:=Cr J 0;have f1:=Cr J 1;have f2:=Cr J 2;have be:=hid J;have bf:=hid q3))
 all_goals
  have hx:=mj be (.slice p.a p.l.length p.c) (iN<|I-p.fr)<|iN n;have az:w.heap.size<=G:=by have:=al.out;have:=Z.out;omega
  have a7:=((((a6.trans<|(((NB ab.heap.size ab).drew).trans bf).mono a6.size).setCell (p:=(aD G 0)) az<|.slice p.a p.l.length p.c).setCell (p:=(aD G 1)) az<|iN<|I-p.fr).setCell (p:=(aD G 2)) az<|iN n);obtain⟨aA,bg⟩:=Aq<|((w3.setCell (aD G 0)<|.slice p.a p.l.length p.c).setCell (aD G 1)<|iN<|I-p.fr).setCell (aD G 2)<|iN n;rw[bg.out]at hx a7⊢;have bi:Ce aA G 0<|.slice p.a p.l.length p.c:=AG hx rfl;have bk:Ce aA G 1<|iN<|I-p.fr:=AG hx rfl;have bl:Ce aA G 2<|iN n:=AG hx rfl;have bn:=hid a7;go_wp2;exact NZ (v:=.agg #[.slice p.a p.l.length p.c,iN<|I-p.fr,iN n]) (by simp[results,results87,go_sem,bi,bk,bl]) rfl ⟨rfl,bn⟩
end Go.Proofs.YtchpdmjlicmdaaaGreatDoor
