/- Part: Hps Hpt Hpv Hpu. -/
import Derived.Test.YtchpdmjlicmdaaaGreatDoorHpmX
import Derived.LaidMore
import Derived.Lay
import Derived.Test.YtchpdmjlicmdaaaGreatDoorTie
import Derived.Test.YtchpdmjlicmdaaaGreatDoorCards
set_option maxRecDepth 100000
set_option maxHeartbeats 16000000
namespace Go.Proofs.YtchpdmjlicmdaaaGreatDoor
open Go.RowKit Go.Proofs.Tryz
variable {w w':World}{G N b db hb j k p wb:Nat}{L:Nat->Option Nat}{H:Nat->Hd}{S:Nat->Prop}{X:Nat->Nd}{x:Nd}{h:Hd}
def G3(w:World)(b:Nat)(G:Nat->Nd)(H:Nat->Hd):Prop:=(∀k,k<5->A9 w.cell? b (k*8) (G k) (H k))/\(∀o,40<=o->w.cell? (aD b o)=none)/\∀o,w.frozen? (aD b o)=false
def Ht(w:World)(b:Nat)(L:Nat->Option Nat):Prop:=(∀k,k<5->w.cell? (aD b k)=some (.bool (L k).isSome))/\(∀o,5<=o->w.cell? (aD b o)=none)/\∀o,w.frozen? (aD b o)=false
theorem G3.row{G:Nat->Nd}{J:Nat->Hd}(h:G3 w b G J):Dn w.cell? b:=λo s v e H=>by
 by_cases O:40<=o
 .rw[h.2.1 o O]at e;cases e
 have q:=h.1 (o / 8) oM;generalize G (o / 8)=z at q;obtain⟨k,m,u,g,ap,rL,d,ks⟩:=z;obtain⟨Z,ab,ad,ak,al,ao,ar,I⟩:=q;rcases(by omega:o=o / 8*8\/o=o / 8*8+1\/o=o / 8*8+2\/o=o / 8*8+3\/o=o / 8*8+4\/o=o / 8*8+5\/o=o / 8*8+6\/o=o / 8*8+7)with g|g|g|g|g|g|g|g
 .rw[g,Z]at e;cases e
 .rw[g,ab]at e;cases e
 .rw[g,ad]at e;cases e
 .rw[g,ak]at e;cases e
 .rw[g,al]at e;cases e
 .rw[g,ao]at e;cases e
 .rw[show o+1=o / 8*8+7 by omega,I]at H;cases H;exact λq=>by simp[IC]at q
 .rw[g,I]at e;cases e
theorem Ht.row(h:Ht w b L):Dn w.cell? b:=λo s v e H=>by
 by_cases G:5<=o
 .rw[h.2.1 o G]at e;cases e
 .rw[h.1 o oM]at e;cases e
theorem G3.lt{G:Nat->Nd}(h:G3 w b G H):b<w.heap.size:=(h.1 0 oM).lt
theorem Ht.lt(h:Ht w b L):b<w.heap.size:=NF _ _<|h.1 0 oM
theorem G3.mv{G:Nat->Nd}(h:G3 w b G H)(I:Mv S w w')(hb:¬S b):G3 w' b G H:=by
 have q (o:Nat):w'.cell? (aD b o)=w.cell? (aD b o):=I.cell (p:=(aD b o)) h.lt hb;refine⟨λk J=>?_,λo O=>(q o).trans<|h.2.1 o O,λo=>(I.frozen (p:=(aD b o)) h.lt hb).trans<|h.2.2 o⟩;have g:=h.1 k J;generalize G k=z at g⊢;obtain⟨aw,m,u,az,aA,rL,d,ks⟩:=z;obtain⟨Z,ab,ad,ak,al,ao,ap,ar⟩:=g;exact⟨(q _).trans Z,(q _).trans ab,(q _).trans ad,(q _).trans ak,(q _).trans al,(q _).trans ao,(q _).trans ap,(q _).trans ar⟩
theorem Ht.mv(h:Ht w b L)(G:Mv S w w')(hb:¬S b):Ht w' b L:=by
 have q (o:Nat):w'.cell? (aD b o)=w.cell? (aD b o):=G.cell (p:=(aD b o)) h.lt hb;exact⟨λk H=>(q k).trans<|h.1 k H,λo I=>(q o).trans<|h.2.1 o I,λo=>(G.frozen (p:=(aD b o)) h.lt hb).trans<|h.2.2 o⟩
theorem G3.put{G:Nat->Nd}(h:G3 w b G H)(aw:j<5)(x:Nd)(hd:Hd):G3 (BS w b (j*8) x hd) b (AK G j x)<|AK H j hd:=by
 refine⟨λk I=>?_,λo J=>(GQ λi O e=>by have:=(Addr.mk.inj e).2.1;omega).trans<|h.2.1 o J,λo=>(Oz _).trans<|h.2.2 o⟩;unfold AK;by_cases e:k=j
 .subst e
  rw[NS rfl,NS rfl];exact LV<|h.1 k I
 .rw[NO e,NO e]
  have q (o:Nat) (J:o<8):(BS w b (j*8) x hd).cell? (aD b<|k*8+o)=w.cell? (aD b<|k*8+o):=GQ λi O e=>by have:=(Addr.mk.inj e).2.1;omega
  have g:=h.1 k I;generalize G k=z at g⊢;obtain⟨az,m,u,aA,a1,rL,d,ks⟩:=z;obtain⟨Z,ab,ad,ak,al,ao,ap,ar⟩:=g;exact⟨(q 0 oM).trans Z,(q 1 oM).trans ab,(q 2 oM).trans ad,(q 3 oM).trans ak,(q 4 oM).trans al,(q 5 oM).trans ao,(q 6 oM).trans ap,(q 7 oM).trans ar⟩
theorem Ht.put(h:Ht w b L)(I:j<5)(o:Option Nat):Ht (w.setCell (aD b j)<|.bool o.isSome) b<|AK L j o:=by
 have q (i:Nat) (e:i≠j):(w.setCell (aD b j)<|.bool o.isSome).cell? (aD b i)=w.cell? (aD b i):=NG _ _ _ _ λx=>e (Addr.mk.inj x).2.1.symm;refine⟨λk G=>?_,λi H=>(q i oM).trans<|h.2.1 i H,λi=>by rw[Kn];exact h.2.2 i⟩
 unfold AK;by_cases e:k=j
 .subst e
  rw[NS rfl];exact N2 _ _ _<|h.1 k G
 .rw[NO e]
  exact(q k e).trans (h.1 k G)
abbrev tR(hb db G wb H:Nat)(k:Nat):Prop:=Dc hb db G k\/k=wb\/k=H
def WT(w:World)(wb I:Nat)(L:Nat->Option Nat)(X:Nat->Nd):Prop:=∃G H,G3 w wb G H/\(∀k b,L k=some b->G k=X k/\Am w.cell? (G k) (H k))/\Ht w I L
theorem WT.mv(h:WT w wb G L X)(H:Mv S w w')(I:∀k,S k->Dn w.cell? k)(J:¬S wb)(O:¬S G):WT w' wb G L X:=by
 obtain⟨Z,ab,a,b,c⟩:=h;exact⟨Z,ab,a.mv H J,λk i e=>⟨(b k i e).1,KT (b k i e).2 H I⟩,c.mv H O⟩
theorem WT.below(h:WT w wb G L X)(hb:Below w.heap.size w w'):WT w' wb G L X:=h.mv (Mv.of hb) (S:=λ_=>False) (λ_ e=>e.elim) id id
def JS(w:World)(hb db G N wb H j:Nat)(wr:World):Prop:=∃I m L J Q R X,m<=69+j*22000/\Bu (tR hb db G wb H) wr hb db G N I m L J Q R X/\WT wr wb H L X/\Bw w wr
theorem JS.below{wr H:World}{I J:Nat}(h:JS w hb db I N wb J j wr)(G:Below wr.heap.size wr H):JS w hb db I N wb J j H:=by
 obtain⟨Z,m,L,ab,Q,R,X,ad,ak,al,O⟩:=h;exact⟨Z,m,L,ab,Q,R,X,ad,ak.below G,al.below G,O.trans<|G.mono O.size⟩
theorem eV(e:A9 w.cell? b p x h):∃v0 G H v3 v4 v5 I J,w.cell? ⟨b,p,none⟩=some v0/\w.cell? ⟨b,p+1,none⟩=some G/\w.cell? ⟨b,p+2,none⟩=some H/\w.cell? ⟨b,p+3,none⟩=some v3/\w.cell? ⟨b,p+4,none⟩=some v4/\w.cell? ⟨b,p+5,none⟩=some v5/\w.cell? ⟨b,p+6,none⟩=some I/\w.cell? ⟨b,p+7,none⟩=some J:=by
 obtain⟨k,m,u,g,o,rL,d,ks⟩:=x;obtain⟨O,Z,ab,ad,ak,al,ao,ap⟩:=e;simp_all
theorem YJ:Mv (λk=>k=b) w<|BS w b p x h:=by
 obtain⟨k,m,u,g,o,rL,d,ks⟩:=x;exact((((((((Mv.refl (λk=>k=b) w).setCell (p:=(aD b p)) rfl _).setCell (p:=(aD b<|p+1)) rfl _).setCell (p:=(aD b<|p+2)) rfl _).setCell (p:=(aD b<|p+3)) rfl _).setCell (p:=(aD b<|p+4)) rfl _).setCell (p:=(aD b<|p+5)) rfl _).setCell (p:=(aD b<|p+6)) rfl _).setCell (p:=(aD b<|p+7)) rfl _
theorem WT.put{H I:World}{J:Nat->Nd}{Z:Nat->Hd}{y:Nd}{O:Hd}(ab:G3 w wb J Z)(a1:∀k b,L k=some b->J k=X k/\Am w.cell? (J k) (Z k))(ad:Ht w G L)(a6:Am w.cell? y O)(ak:k<5)(al:wb≠G)(ao:BS w wb (k*8) y O=H)(ap:H.setCell (aD G k) (.bool true)=I):WT I wb G (AK L k<|some b) (AK X k y)/\Mv (λi=>i=wb\/i=G) w I:=by
 have ar:Mv (λi=>i=wb) w H:=ao▸YJ;have aw:Mv (λi=>i=G) H I:=ap▸(Mv.refl (λi=>i=G) H).setCell (p:=(aD G k)) rfl _;have az:=ad.mv ar λe=>al e.symm;have aA:G3 H wb (AK J k y)<|AK Z k O:=ao▸ab.put ak y O
 have M:Mv (λi=>i=wb\/i=G) w I:=(ar.mono λ_ e=>.inl e).trans (aw.mono λ_ e=>.inr e);have a7:∀i,(i=wb\/i=G)->Dn w.cell? i:=λi e=>by
  rcases e with rfl|rfl
  .exact ab.row
  .exact ad.row
 refine⟨⟨AK J k y,AK Z k O,aA.mv aw al,λi c e=>?_,ap▸az.put ak (some b)⟩,M⟩;grind [AK,KT]
theorem j9{f:Nat->Option Nat}(e:AK f k none j=some b):j≠k/\f j=some b:=by grind [AK]
abbrev Li(ak wb G p:Nat)(H I J O:Int)(Z:Bool)(ab:List Kv)(ad:BA)(xs:Ay)(h h':Hd)(k:Nat)(W:World):Prop:=Ce W ak k (.bool true)/\(Ce W G 0 (iN H)/\Ce W G 1 (iN I)/\Ce W G 2 (iN J)/\Ce W G 3 (iN O)/\Ce W G 4 (.bool Z)/\Ce W G 5 (.slice h.aa ab.length h.ca)/\Ce W G 6 (.string ad)/\Ce W G 7 (.slice h.ak xs.length h.ck))/\Ce W wb p (iN H)/\Ce W wb (p+1) (iN I)/\Ce W wb (p+2) (iN J)/\Ce W wb (p+3) (iN O)/\Ce W wb (p+4) (.bool Z)/\Ce W wb (p+5) (.slice h'.aa ab.length h'.ca)/\Ce W wb (p+6) (.string ad)/\Ce W wb (p+7) (.slice h'.ak xs.length h'.ck)
theorem Li.below{H:Nat}{I J O Z:Int}{ab:Bool}{ad:List Kv}{ak:BA}{xs:Ay}{h':Hd}{W al:World}(q:Li G wb H p I J O Z ab ad ak xs h h' k W)(hb:Below W.heap.size W al):Li G wb H p I J O Z ab ad ak xs h h' k al:=by
 obtain⟨t,⟨a0,ao,a2,a3,a4,a5,ap,ar⟩,aw,az,aA,b3,a1,b5,a6,a7⟩:=q;have m:=Ai hb;exact⟨m _ _ t,⟨m _ _ a0,m _ _ ao,m _ _ a2,m _ _ a3,m _ _ a4,m _ _ a5,m _ _ ap,m _ _ ar⟩,m _ _ aw,m _ _ az,m _ _ aA,m _ _ b3,m _ _ a1,m _ _ b5,m _ _ a6,m _ _ a7⟩
def RA(w:World)(hb db I N wb J m:Nat)(f kd Z:Int)(G:World):Prop:=∃ab O H L' ad Q R X,WT G wb J H X/\Bu (tR hb db I wb J) G hb db I N ab O L' ad Q R X/\O<=m+22000/\Bw w G/\((f=0/\kd=5/\∃k:Nat,k<5/\Z=k/\L'=AK H k none)\/(¬(f=0/\kd=5)/\L'=H))
theorem kB{r:Nat}{v0 H I v3:Int}{v4:Bool}{v5:Option Addr}{J O:Nat}{Z:BA}{v9:Option Addr}{ab ad:Nat}(h:w.heap[r]? =some (.cells #[iN v0,iN H,iN I,iN v3,.bool v4,.slice v5 J O,.string Z,.slice v9 ab ad] 31 (0,0))):Dn w.cell? r:=λo s v e G=>by
 simp only[World.cell?,h]at e G;rcases o with _|_|_|_|_|_|_|_|o<;>simp at e G
 subst G;exact λq=>by simp[IC]at q
theorem oZ:Mv (λk=>k=b) w<|As w b x h:=by
 obtain⟨k,m,u,g,o,rL,d,ks⟩:=x;exact((((((((Mv.refl (λk=>k=b) w).setCell (p:=(aD b 0)) rfl _).setCell (p:=(aD b 1)) rfl _).setCell (p:=(aD b 2)) rfl _).setCell (p:=(aD b 3)) rfl _).setCell (p:=(aD b 4)) rfl _).setCell (p:=(aD b 5)) rfl _).setCell (p:=(aD b 6)) rfl _).setCell (p:=(aD b 7)) rfl _
theorem Tn.Ok.below{t:Tn}(h:t.Ok w)(hb:Below w.heap.size w w'):t.Ok w':=by
 obtain⟨⟨⟨G,H⟩,a,b,I,c,J⟩,n,i⟩:=h;exact⟨⟨⟨G.below hb,H.below hb⟩,a,b,I.below hb,c,J.below hb⟩,n.on<|Ai hb,i⟩
abbrev ax:Array Value:=#[iN 0,iN 0,iN 0,iN 0,.bool false,nL,.string ⟨#[]⟩,nL,iN 0,iN 0,iN 0,iN 0,.bool false,nL,.string ⟨#[]⟩,nL,iN 0,iN 0,iN 0,iN 0,.bool false,nL,.string ⟨#[]⟩,nL,iN 0,iN 0,iN 0,iN 0,.bool false,nL,.string ⟨#[]⟩,nL,iN 0,iN 0,iN 0,iN 0,.bool false,nL,.string ⟨#[]⟩,nL]
theorem pL(h:w.heap[b]? =some (.cells ax 32 (0,0))):G3 w b (λ_=>zN) λ_=>zH:=by
 refine⟨λk H=>?_,λo G=>?_,λo=>Cr h o⟩
 .rcases(by omega:k=0\/k=1\/k=2\/k=3\/k=4)with rfl|rfl|rfl|rfl|rfl<;>exact⟨AG h rfl,AG h rfl,AG h rfl,AG h rfl,AG h rfl,AG h rfl,AG h rfl,AG h rfl⟩
 .simp only[World.cell?,h]
  exact C4 (by simpa using G)
theorem pS(h:w.heap[b]? =some (.cells #[.bool false,.bool false,.bool false,.bool false,.bool false] 33 (0,0))):Ht w b nH:=by
 refine⟨λk G=>?_,λo H=>?_,λo=>Cr h o⟩
 .rcases(by omega:k=0\/k=1\/k=2\/k=3\/k=4)with rfl|rfl|rfl|rfl|rfl<;>exact AG h rfl
 all_goals grind [World.cell?]
theorem ow(H:200<=N/\N<=500):Cc w hb db G N nH nH (λ_=>EC) λ_=>EC:=by
 have e (i:Nat):pq (λ_=>EC) (λ_=>EC) i=EC:=by unfold pq;split<;>rfl
 have I (i:Nat):pq nH nH i=none:=by unfold pq;split<;>rfl
 refine⟨λk _=>⟨⟨rfl,rfl⟩,rfl,rfl⟩,λ_=>rfl,λ_=>rfl,λi=>?_,H,λi z h=>?_,λi=>?_,λi j _ z h=>?_,λi b h=>?_,λi p h=>?_⟩
 .grind [Fp.zero]
 .rw[e]at h;cases h
 .rw[e];exact .nil
 .rw[e]at h;cases h
 .grind
 .rw[e]at h;cases h
theorem oP{H m:Nat}{F:Nat->Prop}(h:HK w hb db G (64*N) N H m nH nH)(I:200<=N/\N<=500)(J:∀k,Dc hb db G k->F k)(fl:∀k,F k->k<w.heap.size):Bu F w hb db G N H m nH nH (λ_=>EC) (λ_=>EC) λ_=>zN:=
 ⟨h,ow I,λi b e=>(by cases e),λi b e=>(by cases e),λi b e=>(by unfold pq at e;split at e<;>cases e),λi=>.inl (by unfold pq;split<;>rfl),J,fl⟩
theorem bT{a:Option Addr}{cap:Nat}{l:List Tn}(hx:ZN w a l)(dg:∃eD,Ce w (1) 0<|iN eD)(n:Int):
 Calls prog 3 #[iN n,.slice a l.length cap] w λe w'=>e=.returned (.bool true)/\Bw w w':=by
 have g7:=hid hx;have h6:=hid dg;have g8:=hid<|cY hx (cap:=cap) 20 oD;by_cases a7:n<200
 .go_enter func3,ntmps3
  have dj:decide (n<200)=true:=NY a7;go_wp2;go_ret;exact⟨rfl,NB _ _⟩
 by_cases ad:500<n
 .go_enter func3,ntmps3
  have dj:decide (n<200)=false:=NM a7;have eE:decide (500<n)=true:=NY ad;go_wp2;go_ret;exact⟨rfl,NB _ _⟩
 obtain⟨N,rfl⟩:∃N:Nat,n=N:=⟨n.toNat,by omega⟩;have eF:Hid<|200<=N/\N<=500:=by show _/\_;omega
 have dj:decide ((N:Int)<200)=false:=NM a7;have eE:decide (500<(N:Int))=false:=NM ad;clear hx dg a7 ad;go_enter func3,ntmps3;go_wp2_with fail
 refine rQ g8 ?_;rintro e h7 ⟨⟨r,rfl,g9⟩,q1⟩;have ee:=hid q1;have eL:=hid g9;clear g8 q1 g9;cases r
 .go_wp2
  go_ret;exact⟨rfl,ee⟩
 have dk:=hid<|iv h7 N eF.1 eF.2;clear dj eE;go_wp2_with fail
 refine rQ dk ?_;rintro e cl ⟨⟨hb,db,ak,rfl,ab,co,a7,b4⟩,q2⟩;clear dk;obtain⟨cr,h8,ha,hc,eX⟩:=Ff cl ax 32;obtain⟨h9,ih,he,iw,hf⟩:=Ff cr #[.bool false,.bool false,.bool false,.bool false,.bool false] 33;have e0:=ha.out.trans<|he.mono ha.size;have hg:=(he.block _<|Cw eX).trans eX;have iz:=ab.lt;have bG:Hid<|(¬Dc hb db ak cl.heap.size/\¬Dc hb db ak cr.heap.size)/\cl.heap.size≠cr.heap.size/\(w.heap.size<=hb/\w.heap.size<=db/\w.heap.size<=ak)/\w.heap.size<=cl.heap.size/\w.heap.size<=cr.heap.size:=by
  have g1:=ee.out.size;have ef:=q2.size;have g3:=hc.out;show(¬(_\/_\/_)/\¬(_\/_\/_))/\_;omega
 have e1:Hid<|JS w hb db ak N cl.heap.size cr.heap.size 0 h9:=⟨1,69,nH,nH,_,_,_,by omega,oP (ab.below e0) eF (λ_ e=>.inl e) (λk e=>by
  have g1:=hc.out;have ef:=iw.out;rcases e with(e|e|e)|e|e<;>omega),⟨_,_,pL hg,λk b e=>(by cases e),pS hf⟩,ee.trans<|(q2.trans<|e0.mono q2.size).mono ee.size⟩
 clear ab co a7 b4 q2 eX hf e0 hg iz;go_upto_region 7 with fail
 rw[h8.out];go_upto_region 8 with fail
 rw[ih.out];obtain⟨wb,hh⟩:=Aq cl.heap.size;obtain⟨I,hi⟩:=Aq cr.heap.size;rw[hh.out,hi.out]at bG e1;rw[hh.out,hi.out];go_wp2_with fail
 go_loopw [10] (λi wr=>∃j:Nat,j<=l.length/\i=iN j/\Hid (JS w hb db ak N wb I j wr)) (λi _=>l.length-(intOf i).toNat)
 case atStart=>exact⟨0,N7 _,rfl,e1⟩
 case round=>
  obtain⟨j,mS,rfl,hj⟩:=hrel;clear e1;by_cases i0:j<l.length
  .have i1:decide ((j:Int)<(l.length:Int))=true:=NY oM
   obtain⟨t,cx⟩:∃t,l[j]? =some t:=⟨_,NA i0⟩;obtain⟨b,dm,rfl,hk⟩:=g7.1.resolve_left λe=>by rw[e]at cx;simp at cx
   have e2:=hid<|g7.2 t<|NW cx;have hl:=hid<|(eL trivial).2 t<|NW cx;have a8:Hid (∀W,Bw w W->∀(q:Nat) v,t.l[q]? =some v->W.cell? ⟨b,dm+j*26+q,none⟩=some v):=λW e3 q v e=>Ai e3 _ _<|hk j t cx q v e;obtain⟨m0,m,L,eg,Q,R,X,hm,cD,dn,cF⟩:=hj.out
   obtain⟨Y,ej⟩:∃Y,J5 wr eg Y/\∀k,eg k=none->Y k=zN:=by
    obtain⟨Y,ej⟩:=cD.g.boxes;refine⟨λk=>if eg k=none then zN else Y k,λk hn e=>?_,λk e=>NS e⟩;have ek:¬eg k=none:=λq=>by rw[q]at e;cases e
    dsimp only;rw[NO ek];exact ej k hn e
   obtain⟨H,i2,bH,m1,i4⟩:=Ff wr #[.int .i64 0,.int .i64 0,.int .i64 0,.int .i64 0,.bool false,.slice none 0 0,.string ⟨#[]⟩,.slice none 0 0] 31;obtain⟨⟨kd,ba,i5,i8,⟨bi,bk,bl,bn,bo,bp,bq,xs⟩,hx,ja⟩,jc⟩:=Aq t;rw[jc.out]at e2 hl a8;have e4:=hid cD;have ji:=hid hm;have jj:=hid dn;have em:=hid cF;have e5:=hid ej;have bs:Hid<|Bw w H:=cF.trans<|bH.mono cF.size;have c0:H.cell? ⟨b,dm+j*26,none⟩=some (.int .i64 kd):=a8 H bs 0 _ rfl;have J:=hid i4;clear hk cD hm dn cF ej cx;go_upto_region 12 with fail
   rw[i2.out];obtain⟨G,en⟩:=Aq wr.heap.size;rw[en.out]at J⊢;go_upto_block 2 with fail
   go_cut []from 37 to 155 (λbd=>Hid (∃y h,AC bd G y h/\Am bd.cell? y h/\(kd=3->y=.mk bi bk bl bn bo bp bq xs)/\(kd=4->∀i:Nat,i<5->ba=i->y=Y i)/\Below wr.heap.size wr bd))
   case first=>
    obtain⟨⟨z0,dp,dr,z3,z4,z5,ds,du⟩,ho,g1,ef,g3,g4,hp,hq,hr⟩:(H.cell? ⟨G,0,none⟩=some (.int .i64 0)/\H.cell? ⟨G,1,none⟩=some (.int .i64 0)/\H.cell? ⟨G,2,none⟩=some (.int .i64 0)/\H.cell? ⟨G,3,none⟩=some (.int .i64 0)/\H.cell? ⟨G,4,none⟩=some (.bool false)/\H.cell? ⟨G,5,none⟩=some (.slice none 0 0)/\H.cell? ⟨G,6,none⟩=some (.string ⟨#[]⟩)/\H.cell? ⟨G,7,none⟩=some (.slice none 0 0))/\H.frozen? ⟨G,0,none⟩=false/\H.frozen? ⟨G,1,none⟩=false/\H.frozen? ⟨G,2,none⟩=false/\H.frozen? ⟨G,3,none⟩=false/\H.frozen? ⟨G,4,none⟩=false/\H.frozen? ⟨G,5,none⟩=false/\H.frozen? ⟨G,6,none⟩=false/\H.frozen? ⟨G,7,none⟩=false:=⟨⟨AG J rfl,AG J rfl,AG J rfl,AG J rfl,AG J rfl,AG J rfl,AG J rfl,AG J rfl⟩,Cr J 0,Cr J 1,Cr J 2,Cr J 3,Cr J 4,Cr J 5,Cr J 6,Cr J 7⟩;have e6:Hid<|AC H G zN zH:=⟨⟨z0,dp,dr,z3,z4,z5,ds,du⟩,λo=>Cr J o⟩;rcases(by omega:kd=3\/kd=4\/(kd≠3/\kd≠4))with rfl|rfl|bB
    .have j0:=a8.out H bs 17 _ rfl
     have j1:=a8.out H bs 18 _ rfl;have j2:=a8.out H bs 19 _ rfl;have j3:=a8.out H bs 20 _ rfl;have j4:=a8.out H bs 21 _ rfl;have ka:=a8.out H bs 22 _ rfl;have kb:=a8.out H bs 23 _ rfl;have kf:=a8.out H bs 24 _ rfl;dsimp only at j0 j1 j2 j3 j4 ka kb kf;have e7:Below wr.heap.size wr<|As H G (.mk bi bk bl bn bo bp bq xs) hx:=bH.trans<|Cb.below (by have:=en.out;omega) bH.size;have dw:Hid (∃y h,AC (As H G (.mk bi bk bl bn bo bp bq xs) hx) G y h/\Am (As H G (.mk bi bk bl bn bo bp bq xs) hx).cell? y h/\((3:Int)=3->y=.mk bi bk bl bn bo bp bq xs)/\((3:Int)=4->∀i:Nat,i<5->ba=i->y=Y i)/\Below wr.heap.size wr (As H G (.mk bi bk bl bn bo bp bq xs) hx)):=⟨_,_,e6.store _ hx,e2.2.1.on<|Ai<|em.trans<|e7.mono em.size,λ_=>rfl,λe=>by omega,e7⟩;clear e7;go_wp2;go_meet
     case rel=>exact dw
    .have c1:=a8.out H bs 1 _ rfl
     dsimp only[Tn.l]at c1;have dk:=hid<|ia (e4.below bH).k (e5.1.below bH) ba;clear z0 dp dr z3 z4 z5 ds du ho g1 ef g3 g4 hp hq hr;go_wp2_with fail
     refine rQ dk ?_;rintro e c3 ⟨hs,q6⟩;obtain⟨y,bY,E,rfl,b0,ht⟩:∃y bY E,e=.returned (.tuple #[At y bY,Ao E])/\(∀i:Nat,i<5->ba=i->y=Y i)/\Am c3.cell? y bY:=by
      rcases hs with⟨k,hn,ab,hu,m2,h',rfl,dx⟩|⟨eo,rfl⟩
      .exact⟨Y k,h',0,rfl,λi _ e=>by rw[show k=i by omega],dx⟩
      .exact⟨zN,zH,5,rfl,λi e8 e=>(e5.2 i<|eo i e8 e).symm,KU _⟩
     have hv:=e6.out.below q6;have hw:=(q6.block G<|Cw J).trans J;have e9:=bH.out.trans<|q6.mono bH.size;have dw:Hid (∃c4 h,AC (As c3 G y bY) G c4 h/\Am (As c3 G y bY).cell? c4 h/\((4:Int)=3->c4=.mk bi bk bl bn bo bp bq xs)/\((4:Int)=4->∀i:Nat,i<5->ba=i->c4=Y i)/\Below wr.heap.size wr (As c3 G y bY)):=⟨_,_,hv.store _ _,KT ht oZ λk e=>by subst e;exact kB hw,λe=>by omega,λ_=>b0,e9.trans<|Cb.below (by have:=en.out;omega) e9.size⟩;obtain⟨⟨z0,dp,dr,z3,z4,z5,ds,du⟩,hy⟩:=hv;obtain⟨ho,g1,ef,g3,g4,hp,hq,hr⟩:=f8 hy;clear hs b0 ht hw e9 hy dk q6;obtain⟨al,ao,ap,ar,aw,az,aA,a1⟩:=y;obtain⟨m3,kk⟩:=Aq<|Ao E;rw[kk.out,show At (.mk al ao ap ar aw az aA a1) bY=Ba al ao ap ar aw az aA a1 bY from rfl];go_wp2;go_meet
     case rel=>exact dw
    .have c5:(kd==3)=false:=beq_eq_false_iff_ne.2 bB.1
     have fa:(kd==4)=false:=beq_eq_false_iff_ne.2 bB.2;have dw:Hid (∃y h,AC H G y h/\Am H.cell? y h/\(kd=3->y=.mk bi bk bl bn bo bp bq xs)/\(kd=4->∀i:Nat,i<5->ba=i->y=Y i)/\Below wr.heap.size wr H):=⟨zN,zH,e6,KU _,λe=>absurd e bB.1,λe=>absurd e bB.2,bH⟩;clear bB;go_wp2;go_meet
     case rel=>exact dw
   case rest=>
    obtain⟨y,b0,hz,hA,b4,bu,dy⟩:=hcut.out;have hB:Hid<|(kd=3->y=.mk bi bk bl bn bo bp bq xs)/\(kd=4->∀i:Nat,i<5->ba=i->y=Y i):=⟨b4,bu⟩;have dz:=hid<|em.trans<|dy.mono em.size;have ko:=hid hz;have kq:=hid hA;have fb:=hid<|e4.below dy;have kv:=hid<|jj.below dy;have fc:Hid<|m<=69+j*22000/\j<20:=⟨ji.out,by have:=(eL trivial).1;omega⟩;obtain⟨cs,fd⟩:=Aq<|Tn.l ⟨kd,ba,i5,i8,.mk bi bk bl bn bo bp bq xs,hx,ja⟩;have hC:cs.length=26:=by rw[<-fd.out];rfl
    have hD:Hid<|Bj wc b (dm+j*26) cs:=λq v e=>a8 wc dz q v (by rw[fd.out];exact e);have kx:=hid hC
    obtain⟨eD,dg⟩:=h6.out;have hE:=hid<|jh fb (by have:=fc.out;omega) (e5.1.below dy) (e2.below dz) hl eD (Ai dz _ _ dg) fd;clear hz hA b4 bu dy dg hcut hC;go_upto_region 17 with fail
    go_wp2_with (refine wpList_load_mid rfl _ _ rfl _ _ rfl cs _ hD rfl rfl (by rw[kx.out];rfl) ?_)
    refine rQ hE ?_;rintro e dT ⟨⟨f,n,tk,ky,k0,k1,k2,k3,k4,k5,k6,rfl,L',G',Q',c6,X',c8,bC,hG,hH,hI⟩,c9⟩;have fe:¬Dc hb db ak G:=λe=>by have:=e4.out.fl _<|.inl e;have:=en.out;omega
    have hJ:Hid<|Bw w dT:=dz.trans (c9.below dz.size λk e=>by have:=bG.out;rcases e with e|e|e<;>omega);have k7:=hid<|kv.mv c9 fb.own bG.1.1 bG.1.2;have hK:=hid<|KT kq c9 fb.own;have hL:Hid<|AC dT G y b0:=by
     obtain⟨q,k8⟩:=ko.out;obtain⟨al,ao,ap,ar,aw,az,aA,a1⟩:=y;have hM:G<wc.heap.size:=NF _ _ q.1;have k (o:Nat):dT.cell? ⟨G,o,none⟩=wc.cell? ⟨G,o,none⟩:=c9.cell (p:=⟨G,o,none⟩) hM fe;exact⟨⟨(k _).trans q.1,(k _).trans q.2.1,(k _).trans q.2.2.1,(k _).trans q.2.2.2.1,(k _).trans q.2.2.2.2.1,(k _).trans q.2.2.2.2.2.1,(k _).trans q.2.2.2.2.2.2.1,(k _).trans q.2.2.2.2.2.2.2⟩,λo=>(c9.frozen (p:=⟨G,o,none⟩) hM fe).trans<|k8 o⟩
    have ff:Hid<|Bu (tR hb db ak wb I) dT hb db ak N c8 bC L' G' Q' c6 X'/\bC<=m+22000:=⟨hH,hG⟩;have fg:=hid hI;obtain⟨O,k9,ld,m5,lf⟩:=Ff dT (II tk ky k0 k1 k2 k3 k4 k5 k6) 52;have da:=ld.out;clear c9 hH hG hI fe hE hD lf;go_upto_region 18 with fail
    rw[k9.out];have d0:=hid<|hJ.trans<|da.mono hJ.size;have fh:Hid<|WT O wb I L X/\Am O.cell? y b0/\AC O G y b0/\Bu (tR hb db ak wb I) O hb db ak N c8 bC L' G' Q' c6 X'/\bC<=m+22000:=⟨k7.below da,hK.on<|Ai da,hL.below da,ff.1.below da,ff.2⟩;clear da;have c0:O.cell? ⟨b,dm+j*26,none⟩=some (.int .i64 kd):=a8 O d0 0 _ rfl;go_cut [94]from 37 to 155 (λfo bd=>fo=.bool (decide (f=0/\(kd=3\/kd=4)))/\bd=O)
    case first=>
     by_cases b6:f=0
     .subst b6
      rcases(by omega:kd=3\/kd=4\/(kd≠3/\kd≠4))with rfl|rfl|bB
      .go_wp2
       go_meet
       case rel=>exact⟨rfl,rfl⟩
      .go_wp2
       go_meet
       case rel=>exact⟨rfl,rfl⟩
      .have c5:(kd==3)=false:=beq_eq_false_iff_ne.2 bB.1
       have fa:(kd==4)=false:=beq_eq_false_iff_ne.2 bB.2;have hN:decide ((0:Int)=0/\(kd=3\/kd=4))=false:=NM oM;have b7:=hid hN;clear bB hN;go_wp2;go_meet
       case rel=>exact⟨by rw[b7.out],rfl⟩
     .have c5:(f==0)=false:=beq_eq_false_iff_ne.2 b6
      have b7:Hid<|decide (f=0/\(kd=3\/kd=4))=false:=NM oM;clear b6;go_wp2;go_meet
      case rel=>exact⟨by rw[b7.out],rfl⟩
    case rest=>
     obtain⟨rfl,d1⟩:=hcut;rw[d1];clear c0 d1;obtain⟨lk,fp⟩:=Aq<|decide (f=0/\(kd=3\/kd=4));rw[fp.out];go_upto_if 94 with fail
     go_cut []from 37 to 155 (λbd=>Hid<|RA w hb db ak N wb I m f kd ba bd)
     case first=>
      cases lk with
      |false=>
       have bx:=of_decide_eq_false fp;have fs:Hid<|RA w hb db ak N wb I m f kd ba O:=by
        obtain⟨co,_,_,bu,ad⟩:=fh.out;rcases fg.out with⟨bF,bb,_⟩|⟨bF,ep,b9,k,ab,ft,be⟩|⟨bF,be,b9⟩
        .exact absurd ⟨bF,bb⟩ bx
        .exact⟨c8,bC,L,L',G',Q',c6,X',by rw[b9];exact co,bu,ad,d0,.inl ⟨bF,ep,k,ab,ft,be⟩⟩
        .exact⟨c8,bC,L,L',G',Q',c6,X',by rw[b9];exact co,bu,ad,d0,.inr ⟨by omega,be⟩⟩
       clear bx;go_wp2;go_meet
       case rel=>exact fs
      |true=>
       have bx:=C6 fp;obtain⟨k,d2,ab,rfl,d3,ln⟩:∃k d2:Nat,k<5/\n=k/\L k=none/\Hid (L'=AK L k (some d2)/\X'=AK X k y):=by
        rcases fg.out with⟨bF,bb,k,d2,ab,lo,d3,be,c4,b9,c5,fa⟩|⟨bF,ep,_⟩|⟨bF,_⟩
        .refine⟨k,d2,ab,lo,d3,be,?_⟩
         have e:c4=y:=by
          rcases bb with bb|bb
          .rw[c5 bb,hB.out.1 bb]
          .obtain⟨i,e8,hu,lp⟩:=fa bb
           rw[lp,hB.out.2 bb i e8 hu]
         rw[b9,e]
        .omega
        .omega
       obtain⟨co,a7,b4,bu,ad⟩:=fh.out;obtain⟨eq,d4,bA,bf,a6⟩:=co;have er:Hid<|k<5/\L k=none:=⟨ab,d3⟩;have hO:(0:Int)<=(k:Int):=by omega
       have fx:(k:Int)<5:=by omega
       have dj:decide ((k:Int)<0)=false:=NM oM;have eE:decide (4<(k:Int))=false:=NM oM;have t0:O.cell? ⟨I,k,none⟩=some (.bool false):=by have e:=a6.1 k ab;rw[d3]at e;exact e
       have bg:=hid bA;have gb:=hid a6;have ls:=hid bf;have lx:=hid a7;have lz:=hid b4;have hP:Hid<|Bu (tR hb db ak wb I) O hb db ak N c8 bC L' G' Q' c6 X'/\bC<=m+22000:=⟨bu,ad⟩;clear ab d3 a7 b4 bu ad bA bf a6;go_upto_region 21 with fail
       obtain⟨v0,m6,m7,v3,v4,v5,m8,m9,z0,dp,dr,z3,z4,z5,ds,du⟩:=eV<|bg.1 k er.1;obtain⟨lD,q1,q2,l0,q4,q5,q6,q7⟩:(O.frozen? ⟨wb,k*8,none⟩=false/\O.frozen? ⟨wb,k*8+1,none⟩=false/\O.frozen? ⟨wb,k*8+2,none⟩=false/\O.frozen? ⟨wb,k*8+3,none⟩=false/\O.frozen? ⟨wb,k*8+4,none⟩=false/\O.frozen? ⟨wb,k*8+5,none⟩=false/\O.frozen? ⟨wb,k*8+6,none⟩=false/\O.frozen? ⟨wb,k*8+7,none⟩=false):=⟨bg.2.2 _,bg.2.2 _,bg.2.2 _,bg.2.2 _,bg.2.2 _,bg.2.2 _,bg.2.2 _,bg.2.2 _⟩;obtain⟨gg,gl⟩:=Aq<|BS O wb (k*8) y b0;obtain⟨es,dd⟩:=Aq<|gg.setCell ⟨I,k,none⟩<|.bool true;have fs:Hid<|RA w hb db ak N wb I m f kd ba es:=by
        obtain⟨p1,p2⟩:=WT.put (b:=d2) bg ls gb lx er.1 bG.2.1 gl dd;obtain⟨be,b9⟩:=ln.out;have d5:=bG.out;refine⟨c8,bC,L',L',G',Q',c6,X',by rw[be,b9];exact p1,hP.1.scr p2 λi e=>⟨.inr e,(by rcases e with rfl|rfl<;>first|exact⟨d5.1.1,bg.row⟩|exact⟨d5.1.2,gb.row⟩)⟩,hP.2,d0.trans (p2.below d0.size λi e=>by omega),.inr ⟨by omega,rfl⟩⟩
       clear bx;have de:gg.cell? ⟨I,k,none⟩=some (.bool false)/\gg.frozen? ⟨I,k,none⟩=false:=by
        have e:=gb.out.mv (gl▸YJ (w:=O) (b:=wb) (p:=k*8) (x:=y) (h:=b0)) λe=>bG.2.1 e.symm;refine⟨?_,e.2.2 k⟩
        have bb:=e.1 k er.1;rw[er.out.2]at bb;exact bb
       have l1:=hid de;clear t0 de;obtain⟨al,ao,ap,ar,aw,az,aA,a1⟩:=y;obtain⟨⟨x0,l2,l3,l4,l5,l8,l9,ma⟩,_⟩:=lz.out;go_upto_region 22 with fail
       have go:=gl.out;simp only[BS]at go;rw[go];clear go z0 dp dr z3 z4 z5 ds du lD q1 q2 l0 q4 q5 q6 q7 x0 l2 l3 l4 l5 l8 l9 ma;obtain⟨t0,de⟩:=l1.out;go_wp2;go_meet
       case rel=>rw[dd.out];exact fs
     case rest=>
      have gq:=hid hcut;clear hcut fh hK hL ff fg;have gr:Hid<|Bw w wc:=by obtain⟨_,_,_,_,_,_,_,_,_,_,_,e,_⟩:=gq.out;exact e
      have c0:wc.cell? ⟨b,dm+j*26,none⟩=some (.int .i64 kd):=a8 wc gr 0 _ rfl;obtain⟨ce,mb⟩:=Aq wc;rw[mb.out]at c0 gq gr⊢;go_upto_region 23 with fail
      go_cut [120]from 37 to 155 (λfo bd=>fo=.bool (decide (f=0/\kd=5))/\bd=ce)
      case first=>
       by_cases b6:f=0
       .subst b6
        by_cases ad:kd=5
        .subst ad
         go_wp2;go_meet
         case rel=>exact⟨rfl,rfl⟩
        .have c5:(kd==5)=false:=beq_eq_false_iff_ne.2 ad
         have b7:Hid<|decide ((0:Int)=0/\kd=5)=false:=NM oM;clear ad;go_wp2;go_meet
         case rel=>exact⟨by rw[b7.out],rfl⟩
       .have c5:(f==0)=false:=beq_eq_false_iff_ne.2 b6
        have b7:Hid<|decide (f=0/\kd=5)=false:=NM oM;clear b6;go_wp2;go_meet
        case rel=>exact⟨by rw[b7.out],rfl⟩
      case rest=>
       obtain⟨rfl,d1⟩:=hcut;rw[d1];clear c0 d1;have c1:=a8.out ce gr 1 _ rfl;dsimp only[Tn.l]at c1;obtain⟨mc,gu⟩:=Aq<|decide (f=0/\kd=5);rw[gu.out];go_upto_if 120 with fail
       go_cut []from 37 to 155 (λbd=>Hid<|JS w hb db ak N wb I (j+1) bd)
       case first=>
        obtain⟨hQ,hR,hS,gv,hT,hU,hV,hW,gw,eu,hX,d6,ad⟩:=gq.out;cases mc with
        |false=>
         have bx:=of_decide_eq_false gu;have cf:Hid<|JS w hb db ak N wb I (j+1) ce:=by
          rcases ad with⟨bF,ep,_⟩|⟨_,be⟩
          .exact absurd ⟨bF,ep⟩ bx
          .exact⟨hQ,hR,gv,hT,hU,hV,hW,by have:=fc.out;omega,eu,by rw[be];exact gw,d6⟩
         clear bx ad gw eu hX d6;go_wp2;go_meet
         case rel=>exact cf
        |true=>
         have bx:=C6 gu;obtain⟨k,ab,rfl,hY⟩:∃k:Nat,k<5/\ba=k/\Hid (gv=AK hS k none):=by
          rcases ad with⟨_,_,k,ab,ft,be⟩|⟨e,_⟩
          .exact⟨k,ab,ft,be⟩
          .exact absurd bx e
         obtain⟨eq,d4,bA,bf,a6⟩:=gw;have t0:ce.cell? ⟨I,k,none⟩=some (.bool (hS k).isSome):=a6.1 k ab;have de:=a6.2.2 k;have hO:(0:Int)<=(k:Int):=by omega
         have fx:(k:Int)<5:=by omega
         obtain⟨es,dd⟩:=Aq<|ce.setCell ⟨I,k,none⟩<|.bool false;have cf:Hid<|JS w hb db ak N wb I (j+1) es:=by
          have ev:Mv (λi=>i=I) ce es:=dd▸(Mv.refl (λi=>i=I) ce).setCell (p:=⟨I,k,none⟩) rfl _;have d5:=bG.out;refine⟨hQ,hR,gv,hT,hU,hV,hW,by have:=fc.out;omega,eu.scr ev λi e=>⟨.inr<|.inr e,by subst e;exact d5.1.2,by subst e;exact a6.row⟩,⟨eq,d4,bA.mv ev d5.2.1,λi c e=>?_,?_⟩,d6.trans (ev.below d6.size λi e=>by omega)⟩
          .rw[hY.out]at e
           have ek:=(j9 e).2;exact⟨(bf i c ek).1,KT (bf i c ek).2 ev λi e=>by subst e;exact a6.row⟩
          .rw[hY.out,<-dd.out];exact a6.put ab none
         clear bx ad eu hX d6 bA bf a6 ab;go_wp2;go_meet
         case rel=>rw[dd.out];exact cf
       case rest=>
        have cf:=hid hcut;obtain⟨b1,mf⟩:=Aq wc;rw[mf.out]at cf⊢;clear hcut c1;go_wp2_with fail
        go_loopw [15] (λi mg=>∃k:Nat,k<=5/\i=iN k/\Hid (Below b1.heap.size b1 mg)) (λi _=>5-(intOf i).toNat)
        case atStart=>exact⟨0,N7 _,rfl,NB _ _⟩
        case round=>
         obtain⟨k,ab,rfl,b2⟩:=hrel;by_cases ew:k<5
         .have fx:(k:Int)<5:=by omega
          have hO:(0:Int)<=(k:Int):=by omega
          have dj:decide ((k:Int)<5)=true:=NY fx;obtain⟨_,_,nb,_,_,_,mi,_,cD,dn,cF⟩:=cf.out;have ey:=cD.below b2;have hZ:=hid<|dn.below b2;have ml:=hid ey;have gx:=hid<|cR ey.k ey.t k;clear cD dn cF ey;go_wp2_with fail
          refine rQ gx ?_;rintro e Z ⟨⟨mm,h0,nd,nf,gy,h',rfl,dx⟩|⟨eo,rfl⟩,ch⟩
          .obtain rfl:k=mm:=by omega
           obtain⟨eq,d4,bA,bf,a6⟩:=hZ.below ch;obtain⟨⟨ng,de,mo⟩,h1,h2,mp⟩:=ml.t k h0 gy;have gz:=Id _ h2 h1;obtain⟨h3,d7⟩:=bf k h0 gy;have d8:=bA.1 k ew;rw[h3]at d7 d8;have d9:Z.cell? ⟨I,k,none⟩=some (.bool true):=by have e:=a6.1 k ew;rw[gy]at e;exact e
           clear bf de mo h1 h2 mp h3 gx;generalize mi k=x at dx gz d7 d8⊢;obtain⟨al,ao,ap,ar,aw,az,aA,a1⟩:=x;generalize d4 k=a7 at d7 d8;have eb:Below Z.heap.size Z<|Z.alloc<|Aw al ao ap ar aw az aA a1 h':=(NB _ _).alloc (rP _) _;have h4:=AC.new Z al ao ap ar aw az aA a1 h';have g0:Li I wb Z.heap.size (k*8) al ao ap ar aw az aA a1 h' a7 k<|Z.alloc<|Aw al ao ap ar aw az aA a1 h':=⟨Ai eb _ _ d9,h4.1,d8.below eb⟩;have mu:Hid (∀W,Below Z.heap.size Z W->Calls prog 10 #[At (.mk al ao ap ar aw az aA a1) h',At (.mk al ao ap ar aw az aA a1) a7] W λe mv=>e=.returned (.bool true)/\Below W.heap.size W mv):=λW e3=>bw dx a7 W gz d7 e3;have ed:Hid<|Below b1.heap.size b1 Z:=b2.trans<|ch.mono b2.size
           clear bA a6 d9 d7 d8 h4 dx gz ch;rw[show At (.mk al ao ap ar aw az aA a1) h'=Ba al ao ap ar aw az aA a1 h' from rfl];go_upto_region 29 with fail
           obtain⟨ez,eB⟩:=Aq<|Z.alloc<|Aw al ao ap ar aw az aA a1 h';rw[eB.out]at g0 eb⊢;have g2:Hid<|Below Z.heap.size Z ez.drew:=eb.drew;have g5:Li I wb Z.heap.size (k*8) al ao ap ar aw az aA a1 h' a7 k ez.drew:=g0;clear g0 eb;go_region_held3 (λW=>Li I wb Z.heap.size (k*8) al ao ap ar aw az aA a1 h' a7 k W) (first|with_reducible exact g5|with_reducible exact h5) (first|(go_at_call 10;refine rQ (mu.out _ g2.out) ?_;rintro e c3 ⟨rfl,g6⟩;have h5:=Li.below g5 g6))
           all_goals
            have mx:Hid<|Below b1.heap.size b1 c3:=ed.trans<|(g2.trans<|g6.mono g2.size).mono ed.size;clear g6 g5 h5;go_wp2;go_roundw
            case rel=>exact⟨k+1,by omega,by go_num,mx⟩
            case measure=>(simp[intOf];try omega)
          .obtain⟨eq,d4,bA,bf,a6⟩:=hZ.below ch
           have d9:Z.cell? ⟨I,k,none⟩=some (.bool false):=by have e:=a6.1 k ew;rw[eo k ew rfl]at e;exact e
           have ed:Hid<|Below b1.heap.size b1<|Z.alloc<|Aw 0 0 0 0 false [] ⟨#[]⟩ [] zH:=(b2.trans<|ch.mono b2.size).alloc (Rz b2.size ch.size) _;have my:(Z.alloc<|Aw 0 0 0 0 false [] ⟨#[]⟩ [] zH).cell? ⟨I,k,none⟩=some (.bool false):=Ai ((NB _ _).alloc (rP _) _) _ _ d9;clear bA bf a6 d9 gx eo ch;rw[show Ao 5=.iface 101 (.int .i64 5)from rfl];go_upto_region 29 with fail
           obtain⟨ez,eB⟩:=Aq<|Z.alloc<|Aw 0 0 0 0 false [] ⟨#[]⟩ [] zH;rw[eB.out]at my ed;rw[show Z.alloc (.cells #[.int .i64 0,.int .i64 0,.int .i64 0,.int .i64 0,.bool false,.slice none 0 0,.string ⟨#[]⟩,.slice none 0 0] 31)=ez from eB];go_quiet (fail)
           go_wp2;go_roundw
           case rel=>exact⟨k+1,by omega,by go_num,CS ed _⟩
           case measure=>(simp[intOf];try omega)
         .obtain rfl:k=5:=by omega
          have nj:=(eL trivial).1;go_wp2;go_roundw
          case rel=>exact⟨j+1,by omega,by go_num,cf.below b2⟩
          case measure=>(simp[intOf];try omega)
  .obtain rfl:j=l.length:=by omega
   have i1:decide ((l.length:Int)<(l.length:Int))=false:=NM oM;go_wp2;go_ret;obtain⟨_,_,_,_,_,_,_,_,_,_,bu⟩:=hj.out;exact⟨rfl,bu⟩
end Go.Proofs.YtchpdmjlicmdaaaGreatDoor
namespace Go.Proofs.YtchpdmjlicmdaaaGreatDoor
open Go.ChangeShapes Go.WideShapes Go.ChangeAt Go.RowKit Go.ChangeMaps Go.Proofs.Tryz
namespace RowsIn
theorem maxLen_cell{W:World}(h:W.ShapedOpen prog):∃m,Ce W (1) 0<|iN m:=
 Go.Proofs.cell_of_shapedOpen_int (t:=3) (zero:=#[iN 0]) h (C6 oK) oK rfl oK oK underlying3
theorem handed{J:Type}{enc:TypeId×Value->J}{os:Os}{f:FuncId}{fn:Func}{s:ChangeSpec}{O Z ab:Bool}{X:World->Array Value->Prop}
 (_hX:∀(w w':World) (args:Array Value),w.heap=w'.heap->X w args->X w' args) (ak:os.Started) (al:Tryz.checked.prog.inits.idxOf? f=none) (ao:Tryz.checked.prog.funcs[f]? =some fn)
 (ap:∃(w:World) (G:Tape) (i:Input),w.os=os/\(w.forCall G i).Shaped Tryz.checked.prog/\i.vars=[]/\Input.okWide Tryz.checked.prog (w.forCall G i) .any w.heap.size f i/\
  ((s.pre enc Tryz.checked.prog fn [] false (w.forCall G i).memory i.args/\X (w.forCall G i).memory i.args)/\sizedMet enc Tryz.checked.prog fn (OpenSpec.ofChange s) false (w.forCall G i).memory i.args)/\({}:Assume).holds Tryz.checked.prog (lone (Frame.enter Tryz.checked.prog f i.args .normal) []<|w.forCall G i))
 (ar:∀(W:World) (base:Nat) (args:Array Value) (H gs:List<|DataW J) (I:List MemPlace),
  (∀(j:Nat) t v,fn.params[j]? =some t->args[j]? =some v->Value.okWide Tryz.checked.prog W .any base t v)->
  DataW.Whole enc Tryz.checked.prog fn.params.toList s.vars false W args.toList H gs I->W.ShapedOpen Tryz.checked.prog->
  Calls Tryz.checked.prog f args W λe ad=>∃v,e=.returned v/\s.post enc Tryz.checked.prog fn false O Z ab W args v ad):
 ReturnsInHanded {} Tryz.checked os f .any (λw args=>(s.pre enc Tryz.checked.prog fn [] false w args/\X w args)/\sizedMet enc Tryz.checked.prog fn (OpenSpec.ofChange s) false w args) (s.post enc Tryz.checked.prog fn false O Z ab):=by
 refine returnsInHanded_of_calls RowsIn.own ak al ap ?_;intro w G i _ aw _ az aA _;obtain⟨_,_,_,a1,a6,_,_,_,_,a7⟩:=az;obtain rfl:a1=fn:=Option.some.inj<|a6.symm.trans ao;obtain⟨⟨⟨H,gs,I,a8,_⟩,_⟩,_⟩:=aA;refine(ar (w.forCall G i) w.heap.size i.args H gs I a7 (DataW.Whole.of_heap (w':=w.forCall G i) (by rfl) a8) aw).mono λe ad ⟨v,he,hp⟩=>?_;subst he
 exact ChangeSpec.post_blind hp
end RowsIn
end Go.Proofs.YtchpdmjlicmdaaaGreatDoor
namespace Go.Proofs.YtchpdmjlicmdaaaGreatDoor
open Go.Proofs.Tryz
theorem aO:joinedFacts prog 3 Tryz.f3 Rows.topSealedSpec Rows.topSealedRow=true:=by kernel_rfl
end Go.Proofs.YtchpdmjlicmdaaaGreatDoor
namespace Go.Proofs.YtchpdmjlicmdaaaGreatDoor
open Go.ChangeShapes Go.WideShapes Go.ChangeAt Go.RowKit Go.ChangeMaps Go.Proofs.Tryz
namespace SealedRow
theorem lifted(os:Os)(ad:os.Started)(ak:Type)(enc:TypeId×Value->ak):
 ReturnsInHanded {} Tryz.checked os 3 .any (λw args=>(Rows.topSealedSpec.pre enc prog Tryz.f3 [] false w args/\laidMetH prog Rows.topSealedRow.laid w)/\sizedMet enc prog Tryz.f3 (OpenSpec.ofChange Rows.topSealedSpec) false w args)
  (Rows.topSealedSpec.post enc prog Tryz.f3 false true false false):=by
 refine RowsIn.handed (X:=λw _=>laidMetH prog Rows.topSealedRow.laid w) (λ_ _ _ al h=>h.of_heap al) ad oK func3
  (ChangeSpec.witness_shaped (enc:=enc) (C:=Tryz.checked) (os:=os) (X:=λw _=>laidMetH prog Rows.topSealedRow.laid w) false (World.laidAll prog os Rows.topSealedRow.laid) #[iN 0,nL] 8 (World.laidAll_os _ _ _)
   (World.shaped_of_ZipB oK oK) oK oK oK
   (by rw[MakeChecks.laidMetH_plain _ _ _ oK];exact laidMet_laidAll _ oK oK)) ?_
 intro W base args ao gs bk ap H ar;have G:∀(j:Nat) t v,Tryz.f3.params[j]? =some t->args[j]? =some v->Value.okWide prog W .any base t v:=ap;have aw:=H;obtain⟨p,q,az,aA,rfl,bl,bn⟩:=H;have I:DataW.TrodAll enc prog W 0 (λ_=>true) true Tryz.f3.params.toList args.toList ao p:=az;rw[Tryz.params3]at I G;obtain⟨v0,a1,bo,bp,p0,p1,rfl,rfl,rfl,a6,J⟩:=trodAll_two I;obtain⟨rfl,rfl⟩:=trodVars_none aA;have O:=J;have a7:∀x∈p1,x.block<W.heap.size:=by obtain⟨m,a8⟩:=O;exact DataW.trod_lt m _ _ _ a8
 obtain⟨x,rfl,rfl,rfl,ba⟩:=open_int underlying3 (G 0 3 v0 rfl rfl) a6;obtain⟨Z,bb,ab,rfl⟩:=okWide_slice underlying22<|G 1 22 a1 rfl rfl;obtain⟨f1,g1⟩:=J;haveI:Nonempty Tn:=⟨⟨0,0,⟨0,⟨#[]⟩,⟨#[]⟩,⟨#[]⟩,⟨#[]⟩,0,0⟩,⟨none,none,none,none,0,0,0,0,[],[],[],[],0,0,0,0⟩,zN,zH,0⟩⟩
 obtain⟨a,c,l,bd,_,_,be,bf⟩:=RowsIn.rows_of (α:=Tn) (f:=Tn.l) (n:=26) underlying22 oK oD RowsIn.turn_of (by simpa [Value.cells]using g1);obtain⟨rfl,rfl,rfl⟩:Z=a/\bb=l.length/\ab=c:=by simpa using bd
 have bg:=bT (cap:=ab) (a:=Z) (l:=l) ⟨be,bf⟩ (RowsIn.maxLen_cell ar) x;refine bg.mono λe bq ⟨bi,bel⟩=>?_;subst bi
 exact⟨_,rfl,_,_,_,[],_,[],aw,trodAll_mk1<|shut_bool underlying4 _,trodAll_mk2 (shut_int underlying3 ba)<|Below.trod RowsIn.laidOut oK (C6 oK) O bel a7,rfl,bel.frame _,λh=>by cases h⟩
end SealedRow
theorem topSealed_row:Rows.TopSealedSaid:=
 OpenClaim.holds_of_wide 3 Tryz.f3 rfl rfl rfl rfl rfl rfl rfl ⟨rfl,rfl,rfl,rfl,rfl⟩ rfl rfl rfl rfl rfl oK func3 aO
  (C6 oK) (by unfold Func.isWrapper;first|(rw[NS (by decide+kernel)];kernel_rfl)|(rw[NO (by decide+kernel)];exact⟨rfl,rfl⟩))
  (λos G H enc _=>SealedRow.lifted os G H enc)
end Go.Proofs.YtchpdmjlicmdaaaGreatDoor
