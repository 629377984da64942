/- Part: Xv Xw Wu Xx Xy Xz Xzs Yc0 Cb Cc. -/
import Derived.Test.YtchpdmjlicmdaaaGreatDoorXpX
import Derived.Laws.CopyOwn
set_option maxRecDepth 100000
set_option maxHeartbeats 16000000
namespace Go.Proofs.YtchpdmjlicmdaaaGreatDoor
open Go.RowKit Go.Proofs.Tryz
variable {w w' w0:World}{G b:Nat}{M:Df}{x x0:Nd}{rM xs:List Nd}{a:Option Addr}{zs:List Int}{B:Bx}{o up:Bool}{H I c g k m u:Int}{rL:List Kv}{d p:BA}{ks:Ay}{fv v:Value}{h:Hd}{ry:List BA}{e:Ending}
def TJ(w w':World)(G H:Nat)(xs:List Nd):Prop:=(xs.length<=H/\H<=9223372036854775807)/\w.heap.size<=G/\CP w'.cell? (some<|aD G 0) xs/\Dn w'.cell? G/\∀o,w'.frozen? (aD G o)=false
theorem RM{r:Nat}(v0 G H:Value):Az r w<|((w.setCell (aD r 0) v0).setCell (aD r 1) G).setCell (aD r 2) H:=(((Az.refl r w).setCell 0 none v0).setCell 1 none G).setCell 2 none H
theorem UR{r:Nat}{u0 u1 u2:Value}(I:w.cell? ⟨r,0,none⟩=some u0)(J:w.cell? ⟨r,1,none⟩=some u1)(O:w.cell? ⟨r,2,none⟩=some u2)(v0 G H:Value):
 (((w.setCell ⟨r,0,none⟩ v0).setCell ⟨r,1,none⟩ G).setCell ⟨r,2,none⟩ H).cell? ⟨r,0,none⟩=some v0/\(((w.setCell ⟨r,0,none⟩ v0).setCell ⟨r,1,none⟩ G).setCell ⟨r,2,none⟩ H).cell? ⟨r,1,none⟩=some G/\(((w.setCell ⟨r,0,none⟩ v0).setCell ⟨r,1,none⟩ G).setCell ⟨r,2,none⟩ H).cell? ⟨r,2,none⟩=some H:=by simp_all [NG,N2]
theorem Yw{c:AR}:∀(L:List Fl),(∀j u,(BK L)[j]? =some u->c (aD G j)=some u)->∀(i:Nat) f,L[i]? =some f->A9 c G (0+i*8) f.x f.h:=by grind [GR,Ni]
abbrev Qj:=λb ua (us:List Rg) uc ga (gs:List Rg) gc lb lo (rM:List Nd) lc (X:World)=>(Ce X b 0 (.slice ua us.length uc)/\Ce X b 1 (.slice ga gs.length gc)/\Ce X b 2 (sL lb lo (rM.length+1) lc):Prop)
theorem cS{la:Option Addr}{lc:Nat}(al:Ce w b 0<|.slice M.ua M.us.length M.uc)(aA:Ce w b 1<|.slice M.ga M.gs.length M.gc)(bg:Ce w b 2<|.slice la (rM.length+1) lc)(bi:CP w.cell? la (x0::rM))(b9:rM.length<=4):
 Calls prog 221 #[pO b 0] w λe w'=>(∃G H,e=.returned (.agg #[.slice M.ua M.us.length M.uc,.slice M.ga M.gs.length M.gc,sL G 0 (rM.length+1) H])/\TJ w w' G H (x0::rM))/\Bw w w':=by
 obtain⟨ua,ga,uc,gc,us,gs⟩:=M;dsimp only at al aA⊢;obtain⟨lb,I,rfl,f,bk⟩:∃G a1,la=some ⟨G,a1,none⟩/\∃f:Nat->Hd,∀i y,(x0::rM)[i]? =some y->A9 w.cell? G (a1+i*8) y (f i)/\Am w.cell? y (f i):=by
  rcases bi with e|e
  .cases e
  .exact e
 obtain⟨L,a6,bl,bn⟩:=Y6 (x0::rM) I f bk;have a7:L.length=rM.length+1:=by rw[<-CE (f:=Fl.x),a6];rfl
 have bo:Bw w<|w.alloc<|GA:=(NB _ _).alloc (rP _) _;have Z:Bw w (w.alloc<|GA).drew:=bo.drew;have a8:=hid Z;have ao:(Qj b ua us uc ga gs gc lb I rM lc (w.alloc<|GA).drew):=⟨Aj Z al,Aj Z aA,Aj Z bg⟩;have O:Hid<|(w.alloc<|GA).drew.cell? ⟨w.heap.size,0,none⟩=some (nL)/\(w.alloc<|GA).drew.cell? ⟨w.heap.size,1,none⟩=some (nL)/\(w.alloc<|GA).drew.cell? ⟨w.heap.size,2,none⟩=some (nL)/\(w.alloc<|GA).drew.frozen? ⟨w.heap.size,0,none⟩=false/\(w.alloc<|GA).drew.frozen? ⟨w.heap.size,1,none⟩=false/\(w.alloc<|GA).drew.frozen? ⟨w.heap.size,2,none⟩=false:=⟨rO _ _ _ _ rfl,rO _ _ _ _ rfl,rO _ _ _ _ rfl,RB _ _ _ _ rfl,RB _ _ _ _ rfl,RB _ _ _ _ rfl⟩;have ab:Hid<|w.heap.size<(w.alloc<|GA).drew.heap.size:=by show _<(w.alloc<|GA).heap.size;rw[ND];omega
 have bp:Hid (Calls prog 254 #[sL lb I (rM.length+1) lc] (w.alloc<|GA).drew λe w'=>(∃G H,e=.returned (sL G 0 (rM.length+1) H)/\(rM.length+1<=H/\H<=9223372036854775807)/\(w.alloc<|GA).drew.heap.size<=G/\(∀j u,(BK L)[j]? =some u->w'.cell? ⟨G,j,none⟩=some u)/\Dn w'.cell? G/\∀o,w'.frozen? ⟨G,o,none⟩=false)/\Bw (w.alloc<|GA).drew w'):=by
  have e:=dK (w:=(w.alloc<|GA).drew) lb I lc L oM oM λj u ap=>Aj Z<|bl j u ap;rw[a7]at e;exact e
 have ar:Hid<|b≠w.heap.size:=by have:=NF _ _ al;show b≠_;have e:b<w.heap.size:=this;omega
 have bq:Hid _:=a6;have bs:Hid _:=bn;have bu:Hid _:=a7;go_enter func221,ntmps221;go_upto_region 1 with fail
 generalize(w.alloc<|GA)=bx at*;go_region_held3 (Qj b ua us uc ga gs gc lb I rM lc) (assumption) (first|(go_at_call 254;go_call bp.out as e w6 ⟨⟨G,H,rfl,hc6,g6,r6,n6,z6⟩,q6⟩;have ad:(Qj b ua us uc ga gs gc lb I rM lc w6):=⟨Aj q6 ao.1,Aj q6 ao.2.1,Aj q6 ao.2.2⟩;have bA:=Aj q6 O.out.1;have bB:=Aj q6 O.out.2.1;have bC:=Aj q6 O.out.2.2.1;have ce:=(q6.frozen (p:=⟨w.heap.size,0,none⟩) ab.out).trans O.out.2.2.2.1;have cf:=(q6.frozen (p:=⟨w.heap.size,1,none⟩) ab.out).trans O.out.2.2.2.2.1;have ch:=(q6.frozen (p:=⟨w.heap.size,2,none⟩) ab.out).trans O.out.2.2.2.2.2;have aw:b<w6.heap.size:=NF w6 ⟨b,0,none⟩ ad.1;have J:Hid<|Az w.heap.size w6<|((w6.setCell ⟨w.heap.size,0,none⟩<|.slice ua us.length uc).setCell ⟨w.heap.size,1,none⟩<|.slice ga gs.length gc).setCell ⟨w.heap.size,2,none⟩<|sL G 0 (rM.length+1) H:=RM _ _ _;have cl:(Qj b ua us uc ga gs gc lb I rM lc<|((w6.setCell ⟨w.heap.size,0,none⟩<|.slice ua us.length uc).setCell ⟨w.heap.size,1,none⟩<|.slice ga gs.length gc).setCell ⟨w.heap.size,2,none⟩<|sL G 0 (rM.length+1) H):=⟨(J.out.cell (p:=⟨b,0,none⟩) aw ar.out).trans ad.1,(J.out.cell (p:=⟨b,1,none⟩) aw ar.out).trans ad.2.1,(J.out.cell (p:=⟨b,2,none⟩) aw ar.out).trans ad.2.2⟩;have ba:Hid (∀j u,(BK L)[j]? =some u->w6.cell? ⟨G,j,none⟩=some u):=r6;have bF:Hid<|Dn w6.cell? G:=n6;have bG:Hid (∀o,w6.frozen? ⟨G,o,none⟩=false):=z6;have bH:Hid<|rM.length+1<=H/\H<=9223372036854775807:=hc6;have bY:Hid<|bx.drew.heap.size<=G:=g6;have ak:Hid<|Bw w w6:=a8.out.trans<|q6.mono a8.out.size;have co:Hid<|w.heap.size<w6.heap.size:=N1 ab.out q6.size))
 all_goals
  obtain⟨b0,b1,b2⟩:=UR bA bB bC (.slice ua us.length uc) (.slice ga gs.length gc)<|sL G 0 (rM.length+1) H;have cr:=bY.out;have cx:=ab.out;have bb:G<w6.heap.size:=by
   obtain⟨f0,b4⟩:∃f0,L[0]? =some f0:=⟨_,NA (by have:=bu.out;omega)⟩;have:=Yw L ba 0 f0 b4;obtain⟨⟨k,m,u,g,o,rL,d,ks⟩,cD,ly⟩:=f0;exact NF _ _ this.1
  have bd:G≠w.heap.size:=by omega
  have b6:Hid<|TJ w (((w6.setCell ⟨w.heap.size,0,none⟩<|.slice ua us.length uc).setCell ⟨w.heap.size,1,none⟩<|.slice ga gs.length gc).setCell ⟨w.heap.size,2,none⟩<|sL G 0 (rM.length+1) H) G H (x0::rM):=by
   have be:∀o,(((w6.setCell ⟨w.heap.size,0,none⟩<|.slice ua us.length uc).setCell ⟨w.heap.size,1,none⟩<|.slice ga gs.length gc).setCell ⟨w.heap.size,2,none⟩<|sL G 0 (rM.length+1) H).cell? ⟨G,o,none⟩=w6.cell? ⟨G,o,none⟩:=λo=>J.cell (p:=⟨G,o,none⟩) bb bd;refine⟨bH,by omega,.inr ⟨G,0,rfl,λi=>((L[i]?).map Fl.h).getD zH,λi y bf=>?_⟩,JW bF be,λo=>(J.frozen (p:=⟨G,o,none⟩) bb bd).trans<|bG o⟩
   rw[<-bq.out,R6]at bf;obtain⟨fl,az,rfl⟩:=R2.1 bf;show A9 _ G (0+i*8) fl.x (((L[i]?).map Fl.h).getD zH)/\Am _ fl.x (((L[i]?).map Fl.h).getD zH);rw[az];refine⟨Yw L (λj u ap=>(be j).trans<|ba j u ap) i fl az,?_⟩;exact(bs fl<|NW az).on (Ai<|ak.trans<|J.below (rP _) ak.size)
  have b7:=hid<|ak.trans<|J.below (rP _) ak.size;generalize(((w6.setCell ⟨w.heap.size,0,none⟩<|.slice ua us.length uc).setCell ⟨w.heap.size,1,none⟩<|.slice ga gs.length gc).setCell ⟨w.heap.size,2,none⟩<|sL G 0 (rM.length+1) H)=cF at*;go_wp2;refine NZ (v:=.agg #[.slice ua us.length uc,.slice ga gs.length gc,sL G 0 (rM.length+1) H]) (by simp[results,results221,go_sem,b0,b1,b2]) rfl ⟨⟨G,H,rfl,b6⟩,b7⟩
theorem Pj(h:Az b w w'):AW (Ag w.cell? λk=>k==b) w'.cell?:=λq v G=>by
 unfold Ag at G;split at G
 .cases G
 .rename_i H
  have H:q.block≠b:=by simpa using H
  exact(h.cell (NF _ _ G) H).trans G
theorem Yu{rs:List Rg}(h:Rgs w a rs)(hb:Az b w w')(ab:Ix a b):Rgs w' a rs:=by
 rcases h with h|⟨G,H,O,ad⟩
 .exact .inl h
 .have I:G≠b:=ab _ O
  refine .inr ⟨G,H,O,λk r ak=>?_⟩;obtain⟨Z,g1,al⟩:=ad k r ak;have J:G<w.heap.size:=NF w (aD G _) Z;exact⟨(hb.cell (p:=(aD G<|H+k*3)) J I).trans Z,(hb.cell (p:=(aD G<|H+k*3+1)) J I).trans g1,(hb.cell (p:=(aD G<|H+k*3+2)) J I).trans al⟩
theorem jt(h:AV w a zs)(hb:Az b w w')(G:zs=[]\/Ix a b):AV w' a zs:=by
 rcases G with G|G
 .exact .inl G
 rcases h with h|⟨H,I,J,O⟩
 .exact .inl h
 .have Z:H≠b:=G _ J
  refine .inr ⟨H,I,J,λi ab=>?_⟩;have g:=O i ab;exact(hb.cell (p:=(aD H<|I+i)) (NF _ _ g) Z).trans g
theorem kp(h:EN w M)(hb:Az b w w')(G:Ix M.ua b)(H:Ix M.ga b):EN w' M:=⟨Yu h.u hb G,Yu h.g hb H,h.ul,h.gl,h.cu,h.cg,h.ou,h.og⟩
theorem A6.turn{G:Bx}(h:A6 w b B)(hb:Az b w w')(J:NP w'.cell? b G)(O:∀o,8<=o->w'.cell? (aD b o)=none)(Z:∀o,w'.frozen? (aD b o)=false)(H:G.M=B.M)(ab:CP (Ag w.cell? λk=>k==b) G.la G.xs)(ad:G.xs.length<=G.lc/\G.lc<=9223372036854775807)(ak:AV w G.ca G.cs)(I:G.cs=[]\/Ix G.ca b)(al:G.cs.length<=G.cc/\G.cc<=9223372036854775807):A6 w' b G where
 cells:=J
 end8:=O
 fz:=Z
 maps:=by rw[H];exact kp h.maps hb h.au h.ag
 lay:=ab.on<|Pj hb
 lcap:=ad
 grp:=jt ak hb I
 gcap:=al
 au:=by rw[H];exact h.au
 ag:=by rw[H];exact h.ag
 ac:=I
theorem A6.put3(h:A6 w b B){I lc:Nat}{G:List Nd}(O:CP w.cell? (some<|aD I 0) G)(Z:G.length<=lc/\lc<=9223372036854775807):
 A6 (((w.setCell (aD b 0)<|.slice B.M.ua B.M.us.length B.M.uc).setCell (aD b 1)<|.slice B.M.ga B.M.gs.length B.M.gc).setCell (aD b 2)<|sL I 0 G.length lc) b {B with la:=some<|aD I 0,lc:=lc,xs:=G}:=by
 obtain⟨c0,c1,c2,ab,ad,ak,al,c7⟩:=h.cells;obtain⟨ao,ap,ar⟩:=UR c0 c1 c2 (.slice B.M.ua B.M.us.length B.M.uc) (.slice B.M.ga B.M.gs.length B.M.gc)<|sL I 0 G.length lc;have H:∀o,3<=o->(((w.setCell ⟨b,0,none⟩<|.slice B.M.ua B.M.us.length B.M.uc).setCell ⟨b,1,none⟩<|.slice B.M.ga B.M.gs.length B.M.gc).setCell ⟨b,2,none⟩<|sL I 0 G.length lc).cell? ⟨b,o,none⟩=w.cell? (aD b o):=λo J=>by
  simp_all [NG]
 refine h.turn (RM _ _ _) ⟨ao,ap,ar,(H 3 oM).trans ab,(H 4 oM).trans ad,(H 5 oM).trans ak,(H 6 oM).trans al,(H 7 oM).trans c7⟩ (λo J=>(H o oM).trans<|h.end8 o J) (λo=>by simp[h.fz o]) rfl ?_ Z h.grp h.ac h.gcap
 exact Zf (λk aw=>by
  have:k=b:=by simpa using aw
  rw[this];exact h.noStr) O
structure BN (B:Bx) (x0:Nd) (rM:List Nd):Prop where
 xs:B.xs=x0::rM
 fine:DF 60 x0
 ok:Dj true x0=0
 low:∀x∈rM,Dj false x=0/\AI x/\A0 x
 len:rM.length<=4
 quo:EP x0<=B.q
 cred:DZ B.u B.g B.cs B.k=0/\B.cs.length<=8
theorem SV(h:Dj up x=0):cnt x<=60:=((KN up x).1 h).2.2
theorem BN.sz(h:BN B x0 rM):G9 60 x0 rM:=⟨h.fine.lil,h.fine.ids,h.fine.cnt,λx hx=>⟨(h.low x hx).2.1,(h.low x hx).2.2,by have:=SV (h.low x hx).1;omega⟩,h.len⟩
theorem BN.lils(h:BN B x0 rM):∀x∈rM,AI x:=λx hx=>(h.low x hx).2.1
theorem BN.vv(h:BN B x0 rM):∀x∈x0::rM,VV x:=λx hx=>by
 rcases R1.1 hx with rfl|hx
 .exact⟨_,_,((KN _ _).1 h.ok).2.1⟩
 .exact⟨_,_,((KN _ _).1 (h.low x hx).1).2.1⟩
theorem BN.kind(h:BN B x0 rM):x0.kind=2:=((KN _ _).1 h.ok).1
theorem jw(h:Gy up G<|.mk k m u g o rL d ks):0<=m/\m<=4095:=by grind [Gy,EQ]
theorem fK(h:∀x∈xs,A0 x)(ry:List BA):Gx<|AX xs ry:=by
 unfold AX;have G:Gx<|A8<|A5 xs:=Gx.sh λq H=>h _<|JX H;revert G
 generalize A8 (A5 xs)=l;induction ry generalizing l with
 |nil=>exact λh=>h
 |cons m N I=>exact λh=>I _ (h.kid m).sh
theorem BN.good(h:BN B x0 rM):Kh B:=by
 have G:=h.sz.ok oM;rw[<-h.xs]at G;have I:=h.vv;rw[<-h.xs]at I;refine⟨G.len,G.small,G.lim,?_,λry q r H=>?_,λry q r H=>?_⟩
 .rw[h.xs]
  show A8 ((x0,0)::rM.zipIdx 1)≠[];rw[Sl h.kind];simp
 .have e:=fK (λx hx=>G.ids x hx) ry q (by rw[H];exact N4 ..)
  obtain⟨⟨k,m,u,g,o,rL,d,ks⟩,ly⟩:=q;rw[A0]at e;exact⟨e.1,e.2.1⟩
 .obtain⟨up,J,e⟩:=kn I ry q (by rw[H];exact N4 ..)
  obtain⟨⟨k,m,u,g,o,rL,d,ks⟩,ly⟩:=q;exact jw e
def Nt(w0 w:World)(M:Df)(x0:Nd)(rM:List Nd)(r:Int×Nd)(fv:Value):Prop:=∃gf lb,fv=.func (.func gf) #[] lb/\(∀args w,(callFunc gf args).run prog w=.ok (.enter gf args) w)/\
 ∀(W:World) (G H lc:Nat),Bw w W->w.heap.size<=G->w.heap.size<=H->BQ w0 W G H lc M x0 rM->
  Calls prog gf (#[pO G 0]++lb) W λe I=>∃V,e=.returned (Ao r.1)/\BQ w0 I G H lc M V rM/\(r.1=0->V=r.2/\DF 400 V)
def Bx.crd(B:Bx):Int×Int×List Int×Int:=(B.u,B.g,B.cs,B.k)
def De(w0 w':World)(b:Nat)(B:Bx)(rM:List Nd)(V:Nd)(C:Int×Int×List Int×Int):Prop:=Az b w0 w'/\∃G,A6 w' b G/\BN G V rM/\G.M=B.M/\G.q=B.q/\G.crd=C/\(G.ca=B.ca/\G.cs=B.cs\/∀p,G.ca=some p->w0.heap.size<=p.block)/\(G.la=B.la\/∀p,G.la=some p->w0.heap.size<=p.block)
theorem De.stay(h:A6 w b B)(G:BN B x0 rM)(w':World)(hb:Bw w w'):De w w' b B rM x0 B.crd:=⟨Az.of_below hb,B,h.below hb,G,rfl,rfl,rfl,.inl ⟨rfl,rfl⟩,.inl rfl⟩
def FY:List BA->List BA->Bool
 |[],_=>true
 |_::_,[]=>false
 |x::a,y::b=>if y=x then FY a b else false
theorem Yl:∀a b:List BA,FY a b=true↔a<+:b
 |[],b=>by simp[FY]
 |x::a,[]=>by simp[FY]
 |x::a,y::b=>by
  rw[FY,List.cons_prefix_cons,<-Yl a b];by_cases h:y=x
  .rw[NS h];simp[h]
  .rw[NO h];simp;exact λe=>absurd e.symm h
theorem jq{a b:List BA}(h:b.length<a.length):FY a b=false:=by grind [Yl]
theorem jB{a b:List BA}{j:Nat}{x y:BA}(hx:a[j]? =some x)(G:b[j]? =some y):FY (a.drop j) (b.drop j)=if y=x then FY (a.drop<|j+1) (b.drop<|j+1)else false:=by grind [N9,FY]
theorem fy(a ab:Option Addr)(c ap:Nat)(l G:List BA)(w:World)(_hl:l.length<=1000)(a7:G.length<=1000)(h:Bi w.cell? a l)(h':Bi w.cell? ab G):
 Calls prog 224 #[.slice a l.length c,.slice ab G.length ap] w λe w'=>e=.returned (.bool<|FY l G)/\w=w':=by
 by_cases ar:G.length<l.length
 .have d:decide ((G.length:Int)<(l.length:Int))=true:=NY oM
  have I:=hid<|jq ar;go_enter func224,ntmps224;go_wp2;go_ret;exact⟨BI I.symm,rfl⟩
 have d:=NM oM;obtain⟨R,I⟩:=Aq<|FY l G;rw[I.out];have aw:=hid h;have az:=hid h';go_enter func224,ntmps224;go_wp2;go_loop [14] (λi=>∃j:Nat,j<=l.length/\i=iN j/\Hid (R=FY (l.drop j) (G.drop j))) (λi=>l.length-(intOf i).toNat)
 case atStart=>exact⟨0,N7 _,rfl,I.symm⟩
 case round=>
  obtain⟨j,a8,rfl,O⟩:=hrel;by_cases ad:j<l.length;rotate_left
  .have aA:decide ((j:Int)<(l.length:Int))=false:=NM oM
   have a1:Hid<|R=true:=by show _=_;rw[O.out,R8 oM,FY]
   go_wp2;go_ret;exact⟨BI a1.symm,rfl⟩
  have aA:(j:Int)<(l.length:Int):=by omega
  have ba:(j:Int)<(G.length:Int):=by omega
  obtain⟨x,hx⟩:∃s,l[j]? =some s:=⟨l[j],NA _⟩;obtain⟨y,H⟩:∃s,G[j]? =some s:=⟨G[j]' oM,NA _⟩;rcases aw.out with e|⟨b,bb,rfl,ak⟩
  .rw[e]at ad;simp at ad
  rcases az.out with e|⟨bd,be,rfl,al⟩
  .rw[e]at H;simp at H
  have bf:=ak j x hx;have q1:=al j y H;have ao:=hid<|O.trans<|jB hx H;clear ak al hx H O;by_cases J:y=x
  .have a6:(y.toList==x.toList)=true:=by rw[J];simp
   have Z:Hid<|R=FY (l.drop<|j+1) (G.drop<|j+1):=by show _=_;rw[ao.out,NS J]
   go_wp2;go_round
   case rel=>exact⟨j+1,by omega,by go_num,Z⟩
   case measure=>simp[intOf];omega
  .have a6:(y.toList==x.toList)=false:=by simp;exact λe=>J (ME e)
   have Z:Hid<|R=false:=by show _=_;rw[ao.out,NO J]
   go_wp2;go_ret;exact⟨BI Z.symm,rfl⟩
theorem lY{H:Nat}(h:TJ w w' G H (x0::rM))(hb:Bw w w')(J:Bw w0 w)(ad:EN w0 M):
 BQ w0 (w'.alloc<|.cells #[.slice M.ua M.us.length M.uc,.slice M.ga M.gs.length M.gc,sL G 0 (rM.length+1) H] 117) w'.heap.size G H M x0 rM:=by
 obtain⟨ak,az,O,al,ao⟩:=h;have Z:G<w'.heap.size:=by
  rcases O with e|⟨b,aA,e,f,ap⟩
  .cases e
  .obtain⟨ar,_⟩:=ap 0 x0 rfl
   obtain⟨k,m,u,g,o,rL,d,ks⟩:=x0;injection e with e
   injection e with e1 e2
   subst e1;exact NF _ _ ar.1
 have I:Bw w'<|w'.alloc<|.cells #[.slice M.ua M.us.length M.uc,.slice M.ga M.gs.length M.gc,sL G 0 (rM.length+1) H] 117:=(NB _ _).alloc (rP _) _;have ab:=J.size;have aw:=hb.size;exact⟨(J.trans<|hb.mono ab).trans<|I.mono<|Rz ab aw,by omega,by omega,by omega,rO _ _ _ _ rfl,rO _ _ _ _ rfl,rO _ _ _ _ rfl,O.on<|Ai I,ak,JW al λo=>I.cell (p:=(aD G o)) Z,λo=>(I.frozen (p:=(aD G o)) Z).trans<|ao o,ad⟩
theorem Oo(h:A6 w0 b B)(be:Bw w0 w)(ao:BN B x0 rM){r:Int×Nd}(hF:Nt w0 w B.M x0 rM r fv):
 Calls prog 167 #[pO b 0,fv] w λe w'=>e=.returned (Ao (fin B.q x0 r).1)/\De w0 w' b B rM (fin B.q x0 r).2 B.crd:=by
 obtain⟨E,Y⟩:=r;obtain⟨⟨b7,FV⟩,ab⟩:∃R,Hid<|fin B.q x0 (E,Y)=R:=⟨_,rfl⟩;rw[ab.out];obtain⟨gf,lb,rfl,b9,bo⟩:=hF;have ap:=h.below be;have ce:=h.lt;have bf:=ap.lay;have bg:=ap.cells.2.2.1;rw[ao.xs]at bf bg;have bp:=hid<|cS ap.cells.1 ap.cells.2.1 bg bf ao.len;have bq:Hid _:=bo;have ar:=hid h;have ad:=hid ao;have bs:=hid be;go_enter func167,ntmps167;go_wp2_with fail
 go_call bp as e w2 ⟨⟨nb,c',rfl,ho⟩,q2⟩
 have bu:=lY (M:=B.M) ho q2 bs ar.maps;have bx:=bq.out _ w2.heap.size nb c' (q2.trans<|((NB _ _).alloc (rP _) _:Bw w2<|w2.alloc<|.cells #[.slice B.M.ua B.M.us.length B.M.uc,.slice B.M.ga B.M.gs.length B.M.gc,sL nb 0 (rM.length+1) c'] 117).mono q2.size) q2.size ho.2.1 bu;have bA:=hid bx;go_wp2_with fail
 go_call bA as e w3 ⟨V,rfl,s3,hE3⟩
 generalize w2.heap.size=I at s3;have bi:=hid s3;have a1:=hid<|De.stay ar ad;by_cases a6:E=0
 .subst a6
  obtain⟨rfl,bB⟩:=hE3 rfl;have G:=hid bB;rw[show Ao 0=Value.nilIface from rfl];have aw:=hid<|IU s3.c2 s3.lay;go_wp2_with fail
  go_call aw as e w4 ⟨⟨h4,rfl,_,n4⟩,q4⟩
  have HK:=hid<|Oq true n4 G.lil (by have:=G.out.cnt;omega);have bC:=hid<|bi.below q4;obtain⟨F,J⟩:=Aq<|Dj true V;rw[J.out]at HK;go_wp2_with fail
  go_call HK as e w5 ⟨rfl,q5⟩
  have bk:=bC.out.below q5;have bF:=hid bk;by_cases hF:F=0
  .subst hF
   rw[show Ao 0=Value.nilIface from rfl];have bG:Bw w5 w5.drew:=(NB _ _).drew;have az:=bk.below bG;have bl:=hid az;have aw:=hid<|IU az.c2 az.lay;have bH:=ar.out.below az.base;have a7:Ce w5.drew b 7<|iN B.q:=bH.cells.2.2.2.2.2.2.2;obtain⟨O,Z⟩:=Aq<|EP V;have cf:Hid<|0<=O:=by show 0<=O;rw[<-Z.out];unfold EP;omega
   have ao:=ad.out;generalize bY:B.q=q at a7;have a8:=hid bY;go_upto_region 8 with fail
   by_cases aA:q<O
   .have b0:decide (q<O)=true:=NY aA
    go_region_held3 (λw'=>Ce w' b 7<|iN q) (assumption) (first|(go_at_call 85;go_call aw.out as e w6 ⟨⟨h6,rfl,_,n6⟩,q6⟩;have ba:Ce w6 b 7<|iN q:=Aj q6 a7;have bb:Hid (Calls prog 12 #[At V h6] w6 λe w'=>e=.returned (iN O)/\Bw w6 w'):=(by have e:=Oh n6 G.out.lil (by have:=G.out.cnt;omega) (by have:=LI V G.out.lil;have:=G.out.cnt;omega);rw[Z.out]at e;exact e);have bd:Hid<|BQ w0 w6 I nb c' B.M V rM:=bl.out.below q6)|(go_at_call 12;go_call bb.out as e w7 ⟨rfl,q7⟩;have b1:Ce w7 b 7<|iN q:=Aj q7 ba;have H:Hid<|BQ w0 w7 I nb c' B.M V rM:=bd.out.below q7))
    all_goals
     go_wp2;go_ret;obtain⟨rfl,rfl⟩:=qR J (by rw[Z.out,a8.out];exact aA) ab;exact⟨rfl,a1 _ H.base⟩
   .have b0:decide (q<O)=false:=NM aA
    have bn:=hid aA;go_region_held3 (λw'=>Ce w' b 7<|iN q) (assumption) (first|(go_at_call 85;go_call aw.out as e w6 ⟨⟨h6,rfl,_,n6⟩,q6⟩;have ba:Ce w6 b 7<|iN q:=Aj q6 a7;have bb:Hid (Calls prog 12 #[At V h6] w6 λe w'=>e=.returned (iN O)/\Bw w6 w'):=(by have e:=Oh n6 G.out.lil (by have:=G.out.cnt;omega) (by have:=LI V G.out.lil;have:=G.out.cnt;omega);rw[Z.out]at e;exact e);have bd:Hid<|BQ w0 w6 I nb c' B.M V rM:=bl.out.below q6)|(go_at_call 12;go_call bb.out as e w7 ⟨rfl,q7⟩;have b1:Ce w7 b 7<|iN q:=Aj q7 ba;have H:Hid<|BQ w0 w7 I nb c' B.M V rM:=bd.out.below q7))
    all_goals
     have ak:=ar.out.below H.base;obtain⟨c0,c1,c2,ch,cl,co,cr,c7⟩:=ak.cells;obtain⟨cx,cD,cF⟩:Ce w7 I 0 (.slice B.M.ua B.M.us.length B.M.uc)/\Ce w7 I 1 (.slice B.M.ga B.M.gs.length B.M.gc)/\Ce w7 I 2 (sL nb 0 (rM.length+1) c'):=⟨H.c0,H.c1,H.c2⟩;have f0:=ak.fz 0;have f1:=ak.fz 1;have f2:=ak.fz 2;have b2:A6 (((w7.setCell (aD b 0)<|.slice B.M.ua B.M.us.length B.M.uc).setCell (aD b 1)<|.slice B.M.ga B.M.gs.length B.M.gc).setCell (aD b 2)<|sL nb 0 (rM.length+1) c') b {B with la:=some<|aD nb 0,lc:=c',xs:=V::rM}:=ak.put3 H.lay H.cap;have b4:Hid<|De w0 (((w7.setCell (aD b 0)<|.slice B.M.ua B.M.us.length B.M.uc).setCell (aD b 1)<|.slice B.M.ga B.M.gs.length B.M.gc).setCell (aD b 2)<|sL nb 0 (rM.length+1) c') b B rM V B.crd:=by
      refine⟨(Az.of_below H.base).trans<|RM _ _ _,_,b2,⟨rfl,⟨G.lil,G.ids,SV J⟩,J,ad.low,ad.len,?_,ad.cred⟩,rfl,rfl,rfl,.inl ⟨rfl,rfl⟩,.inr λp b6=>by cases b6;exact H.gn⟩;show EP V<=B.q;have:=bn.out;rw[Z.out,a8.out];omega
     go_wp2;go_ret;obtain⟨rfl,rfl⟩:=qI J (by rw[Z.out,a8.out];have:=bn.out;omega) ab;exact⟨rfl,b4⟩
  .have al:=AP (n:=F) rfl hF
   rw[al];go_wp2;go_ret;obtain⟨rfl,rfl⟩:=qM (by rw[J.out];exact hF) ab;exact⟨by rw[J.out,al];rfl,a1 _ bF.base⟩
 .have al:=AP (n:=E) rfl a6
  rw[al];go_wp2;go_ret;obtain⟨rfl,rfl⟩:=Jw a6 ab;exact⟨by rw[al];rfl,a1 _ bi.base⟩
theorem Bz{G:Obj}{a:Addr}(h:w.cell? a=some v):(w.alloc G).cell? a=some v:=Aj ((NB _ _).alloc (rP _) _) h
theorem BO{a p:Addr}(h:p.block≠a.block):(w.setCell a v).cell? p=w.cell? p:=by grind [NG]
theorem Bt{i j:Nat}(h:j≠i):(w.setCell ⟨b,i,none⟩ v).cell? ⟨b,j,none⟩=w.cell? ⟨b,j,none⟩:=by simp[NG]
theorem AC.set1(H:AC w b (.mk k m u g o rL d ks) h)(G:Int):AC (w.setCell ⟨b,1,none⟩<|iN G) b (.mk k G u g o rL d ks) h:=by
 obtain⟨⟨I,J,O,Z,ab,ad,ak,al⟩,ao⟩:=H;exact⟨⟨(Bt oM).trans I,N2 _ _ _ J,(Bt oM).trans O,(Bt oM).trans Z,(Bt oM).trans ab,(Bt oM).trans ad,(Bt oM).trans ak,(Bt oM).trans al⟩,λj=>by simp[ao j]⟩
theorem AC.set2(H:AC w b (.mk k m u g o rL d ks) h)(G:Int):AC (w.setCell ⟨b,2,none⟩<|iN G) b (.mk k m G g o rL d ks) h:=by
 obtain⟨⟨I,J,O,Z,ab,ad,ak,al⟩,ao⟩:=H;exact⟨⟨(Bt oM).trans I,(Bt oM).trans J,N2 _ _ _ O,(Bt oM).trans Z,(Bt oM).trans ab,(Bt oM).trans ad,(Bt oM).trans ak,(Bt oM).trans al⟩,λj=>by simp[ao j]⟩
theorem AC.set3(H:AC w b (.mk k m u g o rL d ks) h)(G:Int):AC (w.setCell ⟨b,3,none⟩<|iN G) b (.mk k m u G o rL d ks) h:=by
 obtain⟨⟨I,J,O,Z,ab,ad,ak,al⟩,ao⟩:=H;exact⟨⟨(Bt oM).trans I,(Bt oM).trans J,(Bt oM).trans O,N2 _ _ _ Z,(Bt oM).trans ab,(Bt oM).trans ad,(Bt oM).trans ak,(Bt oM).trans al⟩,λj=>by simp[ao j]⟩
theorem MY(H:Cm w b x h)(J:∀o,8<=o->w.cell? ⟨b,o,none⟩=none):Dn w.cell? b:=by
 obtain⟨k,m,u,g,o,rL,d,ks⟩:=x;obtain⟨O,q1,q2,Z,q4,q5,q6,q7⟩:=H;intro o s v ab G;rcases Nat.lt_or_ge o 8 with I|I
 .rcases(by omega:o=0\/o=1\/o=2\/o=3\/o=4\/o=5\/o=6\/o=7)with q|q|q|q|q|q|q|q<;>subst q
  .grind
  .grind
  .grind
  .grind
  .grind
  .grind
  .rw[q7]at G
   injection G with G
   subst G;exact λh=>h
  all_goals grind
 all_goals grind
def Dg(w:World)(b:Nat):Prop:=AC w b zN zH/\∀o,8<=o->w.cell? ⟨b,o,none⟩=none
theorem Dg.new(w:World):Dg (w.alloc<|AO) w.heap.size:=⟨AC.zero w,λo G=>by
 rw[rO _ _ _ _ rfl];exact C4 (by simpa using G)⟩
theorem Dg.below(h:Dg w b)(hb:Bw w w'):Dg w' b:=⟨h.1.below hb,λo G=>(hb.cell (p:=(aD b o)) h.1.1.lt).trans<|h.2 o G⟩
theorem Dg.store(h:Dg w b){hd:Hd}(G:Am w.cell? x hd):AC (As w b x hd) b x hd/\Am (As w b x hd).cell? x hd/\Az b w (As w b x hd)/\∀o,8<=o->(As w b x hd).cell? ⟨b,o,none⟩=none:=by
 refine⟨h.1.store x hd,?_,Cb,λo H=>?_⟩
 .rw[KM]
  exact(Ie (λk I=>by
   have e:k=b:=by simpa using I
   subst e;exact MY h.1.1 h.2) G).on Sf
 .rw[KM]
  exact(GQ (λj J e=>by injection e with _ e2;omega)).trans (h.2 o H)
theorem AC.opq(H:AC w b (.mk k m u g o rL d ks) h)(G:Bool):AC (w.setCell ⟨b,4,none⟩<|.bool G) b (.mk k m u g G rL d ks) h:=by
 obtain⟨⟨I,J,O,Z,ab,ad,ak,al⟩,ao⟩:=H;refine⟨⟨?_,?_,?_,?_,?_,?_,?_,?_⟩,λj=>?_⟩;all_goals first|(simp[go_sem,I,J,O,Z,ab,ad,ak,al];done)|(simp[go_sem,ao j];done)
def Gw(W G:World)(Y:Nd)(s:Value):Prop:=∃H hd,s=pO H 0/\W.heap.size<=H/\Bw W G/\AC G H Y hd/\Am G.cell? Y hd/\∀o,8<=o->G.cell? ⟨H,o,none⟩=none
theorem Gw.st{W:World}{Y:Nd}(k:Dg w b)(n:Am w.cell? Y h)(hb:W.heap.size<=b)(q:Bw W w):Gw W (As w b Y h) Y<|pO b 0:=by
 obtain⟨a,c,d,e⟩:=k.store n;exact⟨b,h,rfl,hb,q.trans<|d.below (B:=W.heap.size) hb q.size,a,c,e⟩
theorem Gw.al{W:World}(n:Am w.cell? (.mk k m u g o rL d ks) h)(q:Bw W w):Gw W (w.alloc<|Aw k m u g o rL d ks h) (.mk k m u g o rL d ks)<|pO w.heap.size 0:=
 ⟨_,h,rfl,q.size,q.alloc q.size _,AC.new w k m u g o rL d ks h,n.on<|Ai bN,λo G=>by rw[rO _ _ _ _ rfl];exact C4 (by simpa using G)⟩
theorem Ns{y:Nd}{G:Hd}(hb:Az b w w')(H:Cm w b x h)(I:∀o,8<=o->w.cell? ⟨b,o,none⟩=none)(J:Am w.cell? y G):Am w'.cell? y G:=(Ie (λk O=>by
 have e:k=b:=by simpa using O
 subst e;exact MY H I) J).on<|Pj hb
theorem OT{c:AR}{G J:Int}{O:Bool}{Z:BA}(ab:Am c (.mk k m u g o rL d ks) h):Am c (.mk G H I J O rL Z ks) h:=Cs.2<|Cs.1 ab
theorem Jq{a:Addr}{v0 H I v3 v4 v5 J O:Value}(G:a.block≠b)(h:w.cell? a=some v):((((((((w.setCell ⟨b,0,none⟩ v0).setCell ⟨b,1,none⟩ H).setCell ⟨b,2,none⟩ I).setCell ⟨b,3,none⟩ v3).setCell ⟨b,4,none⟩ v4).setCell ⟨b,5,none⟩ v5).setCell ⟨b,6,none⟩ J).setCell ⟨b,7,none⟩ O).cell? a=some v:=by
 rw[NG _ _ _ _ (λe=>G (by rw[<-e])),NG _ _ _ _ (λe=>G (by rw[<-e])),NG _ _ _ _ (λe=>G (by rw[<-e])),NG _ _ _ _ (λe=>G (by rw[<-e])),NG _ _ _ _ (λe=>G (by rw[<-e])),NG _ _ _ _ (λe=>G (by rw[<-e])),NG _ _ _ _ (λe=>G (by rw[<-e])),NG _ _ _ _ (λe=>G (by rw[<-e]))];exact h
theorem DF.sz{n:Nat}{V:Nd}(h:DF n V){m:Nat}(G:G9 m x0 rM):G9 n V rM:=⟨h.lil,h.ids,h.cnt,G.low,G.len⟩
def Nd.otM(m:Int):Nd->Nd
 |.mk k _ u g o a d ks=>.mk k m u g o a d ks
def Nd.otW(f:Int->Int)(d:BA):Nd->Nd
 |.mk k m u g o a _ ks=>.mk k (f m) u g o a d ks
def Nd.otG(f:Int->Int)(u g:Int):Nd->Nd
 |.mk k m _ _ o a d ks=>.mk k (f m) u g o a d ks
def Nd.otA(L:List Kv):Nd->Nd
 |.mk k m u g o _ d ks=>.mk k m u g o L d ks
def LU(w:World)(H:Nd->Nd)(fv:Value):Prop:=∃gf lb,fv=.func (.func gf) #[] lb/\(∀args w,(callFunc gf args).run prog w=.ok (.enter gf args) w)/\
 ∀(W:World) (G:Nat) (x:Nd) (h:Hd),Bw w W->w.heap.size<=G->AC W G x h->(∀o,8<=o->W.cell? ⟨G,o,none⟩=none)->Am W.cell? x h->AI x->A0 x->
  Calls prog gf (#[pO G 0]++lb) W λe I=>(∃v,e=.returned v)/\∃h',AC I G (H x) h'/\Am I.cell? (H x) h'/\(AI (H x)/\A0 (H x)/\cnt (H x)<=cnt x)/\Az G W I
theorem dR(c8:Bw w0 w)(c9:DF 60 x0)(bb:G9 60 x0 rM){an:Option Addr}{rN:Nat}(bx:Bi w0.cell? an ry)(da:∀s∈ry,Bf s=true)(dd:ry.length<=100)(bA:ry.length<=rN/\rN<=9223372036854775807){az:Nd->Nd}(de:LU w0 az fv)
 {G O:Nat} (bB:w.cell? ⟨G,0,none⟩=some (.slice an ry.length rN)) (bC:w.cell? ⟨O,0,none⟩=some fv):
 Nt w0 w M x0 rM (Hm M.us M.gs x0 rM ry az) (.func (.func 218) #[] #[pO G 0,pO O 0]):=by
 refine⟨_,_,rfl,λargs w=>by kernel_rfl,λW bF ew lc bd ey be dg=>?_⟩;obtain⟨gf,lb,rfl,ez,dj⟩:=de;have c0:=Aj bd bB;have c1:=Aj bd bC;have dk:G<w.heap.size:=NF _ _ bB;have dm:O<w.heap.size:=NF _ _ bC;have bG:=hid<|Nf dg bb oM bx oM bA;have ab:Hid<|(Cx M.us M.gs x0 rM ry).1=0->DF (60+ry.length) (Cx M.us M.gs x0 rM ry).2:=λad=>c9.up da (λx hx=>(bb.low x hx).1) ad;have dn:=hid bb
 have aA:=hid bx;have dp:=hid c8.size;have dr:=hid bA;have a1:=hid bd;have ds:Hid _:=dj;unfold Hm;generalize Cx M.us M.gs x0 rM ry=P at*;obtain⟨E,V⟩:=P;dsimp only at bG ab;obtain⟨R,bf⟩:∃R,Hid (JB (E,V) (λV=>DJ (az<|(Ct ry V).getD zN) ry V)=R):=⟨_,rfl⟩;rw[bf.out];have ao:=hid dd;show Calls prog 218 #[.pointer<|some ⟨bF,0,none⟩,.pointer<|some ⟨G,0,none⟩,.pointer<|some ⟨O,0,none⟩] W _;go_enter func218,ntmps218;go_wp2_with fail
 refine rQ bG ?_;rintro e H ⟨rfl,bH,bg⟩;have c0:=((bg.below (B:=w.heap.size) be a1.size).cell (p:=⟨G,0,none⟩) dk).trans c0;have c1:=((bg.below (B:=w.heap.size) be a1.size).cell (p:=⟨O,0,none⟩) dm).trans c1;have du:=hid<|a1.trans<|bg.below (B:=w.heap.size) be a1.size;have ap:=hid bH;by_cases ad:E=0
 .subst ad
  have ak:=ab.out rfl;clear ab;have ab:Hid (∀w',Bw H w'->Calls prog 85 #[.pointer<|some ⟨bF,0,none⟩] w' λe bi=>(∃h',e=.returned (At V h')/\Am bi.cell? V h')/\Bw w' bi):=λw' hb=>by
   have bY:=ap.out.below hb;refine rQ (IU bY.c2 bY.lay) ?_;rintro e bi ⟨⟨h',dw,_,dx⟩,dy⟩;exact⟨⟨h',dw,dx⟩,dy⟩
  have dz:=hid aA;have dT:=hid<|aA.on<|Ai bH.base;have al:=c0;obtain⟨Y,bk⟩:∃Y,Hid<|(Ct ry V).getD zN=Y:=⟨_,rfl⟩;have bl:Hid<|AI Y/\A0 Y/\cnt Y<=60+ry.length:=by
   show _/\_;rw[<-bk.out];cases hq:Ct ry V with
   |none=>exact⟨by show AI zN;unfold zN;rw[AI,Co];exact⟨⟨by decide,λr d0=>by cases d0⟩,by decide,trivial⟩,by show A0 zN;unfold zN;rw[A0,CJ];exact⟨by unfold A4;omega,by unfold A4;omega,trivial⟩,by show cnt zN<=_;have:cnt zN=1:=rfl;omega⟩
   |some y=>
    obtain⟨a,b,c⟩:=Rq hq ak.lil ak.ids;exact⟨a,b,by have:=ak.cnt;show cnt y<=_;omega⟩
  have b0:Hid<|cnt V<=800/\A7 V:=by
   have:=ak.cnt;have:=ao.out;exact⟨by omega,Id V oM ak.lil⟩
  have b1:=hid ak;have d1:Hid<|ry.length<=1000:=by show _<=_;omega
  rw[show Ao 0=Value.nilIface from rfl];have d2:O<H.heap.size:=NF _ _ c1;have aA:=hid dT;obtain⟨d3,d4⟩:∃b,Hid<|(Ct ry V).isSome=b:=⟨_,rfl⟩;obtain⟨k,m,u,g,o,rL,d,ks⟩:=Y;have b2:H.drew.cell? ⟨G,0,none⟩=some (.slice an ry.length rN):=al;have bn:Hid<|Bw H H.drew:=(NB _ _).drew;have a6:Hid<|Bw H (H.alloc AO).drew:=((NB _ _).alloc (rP _) _).drew;have b4:Hid (∀(J:World) (Z:Hd),Bw H J->Am J.cell? V Z->Calls prog 176 #[At V Z,.slice an ry.length rN] J λe b6=>(∃h',e=.returned (.tuple #[(Ba k m u g o rL d ks h'),.bool d3])/\Am b6.cell? (.mk k m u g o rL d ks) h')/\Bw J b6):=λJ Z d5 a7=>by
   have e:=OJ a7 an rN ry (aA.on<|Ai d5) d1 b0.1 b0.2;rw[bk.out,d4.out]at e;exact e
  have d6:G<H.heap.size:=NF H ⟨G,0,none⟩ al;go_upto_region 4 with fail
  go_cut [6]from 21 (λs d7=>Gw H d7 (.mk k m u g o rL d ks) s)
  case first=>
   have d8:Ce (H.alloc AO).drew G 0<|.slice an ry.length rN:=Aj a6 al;go_region_held3 (λw'=>Ce w' G 0<|.slice an ry.length rN) (first|with_reducible exact b2|with_reducible exact d8|with_reducible exact b7|with_reducible exact bo|(with_reducible refine Bz ?_;first|with_reducible exact b2|with_reducible exact b7|with_reducible exact bo)|(with_reducible refine Jq ?_ bo;show G≠_;first|omega|(have g4:=b9.out;omega))) (first|(go_at_call 85;(first|((with_reducible refine rQ (ab.out _ a6.out) ?_);rintro e J ⟨⟨Z,rfl,a7⟩,q6⟩;have I:=hid<|a6.out.trans<|q6.mono a6.out.size;have d9:=hid<|((Dg.new H).below (NB _ _).drew).below q6)|((with_reducible refine rQ (ab.out _ bn.out) ?_);rintro e J ⟨⟨Z,rfl,a7⟩,q6⟩;have I:=hid<|bn.out.trans<|q6.mono bn.out.size));have b7:Ce J G 0<|.slice an ry.length rN:=Aj I al;have ce:=hid a7)|(go_at_call 176;(first|((with_reducible refine rQ (b4.out _ Z I.out ce.out) ?_);rintro e cf ⟨⟨bp,rfl,ch⟩,q7⟩;have ar:=hid<|I.out.trans<|q7.mono I.out.size;try have a8:=hid<|d9.out.below q7)|((with_reducible refine rQ (b4.out _ Z (I.out.alloc I.out.size AO)<|ce.out.on<|Ai bN) ?_);rintro e cf ⟨⟨bp,rfl,ch⟩,q7⟩;have ar:=hid<|(I.out.alloc I.out.size AO).trans<|q7.mono (I.out.alloc I.out.size AO).size;have b9:=hid I.out.size;have a8:=hid<|(Dg.new J).below q7));have bo:Ce cf G 0<|.slice an ry.length rN:=Aj ar al;have bq:=hid ch;try(obtain⟨⟨⟨z0,eB,eD,z3,z4,z5,eE,eF⟩,eb⟩,_⟩:=id a8.out;obtain⟨eL,ba,bs,cl,eX,e0,e1,e2⟩:=f8 eb)))
   all_goals
    go_wp2_with fail
    go_meet
    first
    |have q:=Gw.st a8 bq b9 ar.out
     simp only[As]at q;exact q
    |have q:=Gw.st a8 bq (rP _) ar.out
     simp only[As]at q;exact q
    |exact Gw.al bq ar
  case' rest=>
   obtain⟨ed,bp,rfl,ee,bu,ef,eg,ej⟩:=hcut;generalize wc=ek at*
  have e3:=dp.out;have e4:=du.out.size;have c1:=(bu.cell (p:=⟨O,0,none⟩) d2).trans c1;have em:=ap.out.base.trans<|bu.mono ap.base.size;have en:=hid<|ds ek ed (.mk k m u g o rL d ks) bp em oM ef ej eg bl.1 bl.2.1;have co:=hid bu;have eo:=hid ee;go_wp2_with fail
  refine rQ en ?_;rintro e e5 ⟨⟨v,rfl⟩,e6,cr,cx,⟨ba,bs,cl⟩,ep⟩;obtain⟨y,cD⟩:∃y,Hid<|az (.mk k m u g o rL d ks)=y:=⟨_,rfl⟩;rw[cD.out]at cr cx ba bs cl;have cF:=hid<|co.trans<|ep.below eo co.size;have c0:=(cF.cell (p:=⟨G,0,none⟩) d6).trans al;have eq:=ap.out.below cF;have e7:=bl.out.2.2;have c3:=hid<|OS eq (b1.sz dn) (by have:=ao.out;omega) cx ba (by have:=ao.out;omega) dz (by have:=ao.out;omega) dr;have c4:Hid<|(DJ y ry V).1=0->DF 400 (DJ y ry V).2:=λer=>by
   have e8:=ao.out;have e:=b1.out.put ba bs (k:=60+ry.length) oM er;exact⟨e.lil,e.ids,by have:=e.cnt;omega⟩
  obtain⟨aw,c5⟩:∃aw,Hid<|DJ y ry V=aw:=⟨_,rfl⟩;have es:Hid<|R=aw:=by show R=aw;rw[<-bf.out,<-c5.out,<-cD.out,<-bk.out];rfl
  rw[c5.out]at c3 c4;obtain⟨e9,fa,u2,fb,fc,fd,fe,ff⟩:=y;obtain⟨fg,g1,fh,g3,g4,fo,fp,fs⟩:=cr.1;go_wp2_with fail
  refine rQ c3 ?_;rintro e ft ⟨rfl,eu,fx⟩;have ev:=hid eu;go_wp2;go_ret;rw[es.out];exact⟨aw.2,rfl,ev,λe=>⟨rfl,c4 e⟩⟩
 .have c6:=AP (n:=E) rfl ad
  rw[c6];go_wp2;go_ret;obtain rfl:(E,V)=R:=by rw[<-bf.out];exact(NO ad).symm
  exact⟨V,by rw[c6];rfl,ap,λe=>absurd e ad⟩
theorem OE(h:A6 w b B)(H:BN B x0 rM){an:Option Addr}{rN:Nat}(ab:Bi w.cell? an ry)(ad:∀s∈ry,Bf s=true)(ak:ry.length<=100)(al:ry.length<=rN/\rN<=9223372036854775807)(ar:fv.oneCell'=true){G:Nd->Nd}(ao:LU w G fv):
 Calls prog 162 #[pO b 0,.slice an ry.length rN,fv] w λe w'=>e=.returned (Ao (fin B.q x0<|Hm B.M.us B.M.gs x0 rM ry G).1)/\De w w' b B rM (fin B.q x0<|Hm B.M.us B.M.gs x0 rM ry G).2 B.crd:=by
 obtain⟨R,I⟩:=Aq<|fin B.q x0<|Hm B.M.us B.M.gs x0 rM ry G;rw[I.out];have J:Bw w<|w.alloc<|.cells #[.slice an ry.length rN] 50:=(NB _ _).alloc (rP _) _;have O:Bw w<|(w.alloc<|.cells #[.slice an ry.length rN] 50).alloc<|.cells #[fv] 258:=J.alloc J.size _;have Z:=hid<|Oo h O H<|dR O H.fine H.sz ab ad ak al ao (Bz<|rO _ _ _ _ rfl)<|rO _ _ _ _ (by rw[ND]);rw[I.out]at Z;go_enter func162,ntmps162;go_wp2_with fail
 go_call Z as e w2 ⟨rfl,ht⟩
 have ap:=hid ht;go_wp2;go_ret;exact⟨rfl,ap⟩
def Mc(t:Th):Prop:=(0<=t.m/\t.m<=4095)/\A4 t.u/\A4 t.g
theorem YU:Mc Lf:=⟨⟨by show(0:Int)<=0;omega,by show(0:Int)<=4095;omega⟩,⟨by show(-9223372036854775808:Int)<=0;omega,by show(0:Int)<=9223372036854775807;omega⟩,⟨by show(-9223372036854775808:Int)<=0;omega,by show(0:Int)<=9223372036854775807;omega⟩⟩
theorem m4{L:List Rg}{x y:Int}(h:Ig L x=some y):A4 y:=by
 unfold Ig at h;by_cases G:Eb L=0
 .rw[NS G]at h
  obtain⟨r,H,I,J,rfl⟩:=O2 h;have hb:=Po G r H;grind [Rg.bd,A4]
 all_goals grind
theorem Yn{rs:List Rg}{x:Int}(hx:A4 x):A4<|(Fn up rs x).getD 65534:=by
 cases h:Fn up rs x with
 |none=>exact⟨by show(-9223372036854775808:Int)<=65534;omega,by show(65534:Int)<=9223372036854775807;omega⟩
 |some y=>
  show A4 y;unfold Fn at h;split at h
  .exact m4 h
  .obtain⟨z,_,rfl⟩:=R2.1 h
   exact hx
theorem Zp(G:FL x)(H:0<=(B.th true x).m/\(B.th true x).m<=4095)(up:Bool):Mc<|B.th up<|x.with []:=by
 obtain⟨k,m,u,g,o,rL,d,ks⟩:=x;exact⟨H,Yn G.1,Yn G.2⟩
structure Jc (B:Bx) (w:World) (ry:List BA) (f:Fd):Prop where
 t:Mc f.t
 dir:Mc f.dir
 nd:Am w.cell? f.x f.h
 there:f.there=true->∃q r,AX B.xs ry=q::r/\f.x=q.1.with []/\f.ly=(q.2:Int)/\f.t=B.th (f.ly==0) f.x
 no:f.there=false->ry≠[]
theorem Zv{B:Bx}{w:World}{ry:List BA}{L:List Fl}(H:Kh B)(J:Mm B w ry L):∀(n j:Nat) (g f:Fd) (fl:Fl),j+n=ry.length->L[j]? =some fl->g.x=fl.x->g.h=fl.h->g.ly=fl.ly->g.there=true->g.t=B.th (g.ly==0) g.x->Mc g.dir->B.wk g n (L.drop<|j+1)=.ok f->Jc B w ry f
 |0,j,g,f,fl,I,hl,h1,h2,h3,h4,h5,h6,h=>by
  have e:B.wk g 0 (L.drop<|j+1)=.ok g:=by rw[Bx.wk.eq_def]
  rw[e]at h;injection h with e
  subst e;obtain⟨q,r,G,a2,a3⟩:=J.rL j fl hl;have I:j=ry.length:=by omega
  subst I;rw[List.take_length]at G;refine⟨?_,h6,?_,λ_=>⟨q,r,G,h1.trans a2,?_,h5⟩,λe=>?_⟩
  .rw[h5,h1,a2]
   exact Zp (H.ids _ _ _ G) (H.mode _ _ _ G) _
  .rw[h1,h2];exact J.nd fl<|NW hl
  .rw[h3,a3]
  .rw[h4]at e;cases e
 |n+1,j,g,f,fl,I,hl,h1,h2,h3,h4,h5,h6,h=>by
  obtain⟨q,r,G,a2,a3⟩:=J.rL j fl hl;have Z:Mc g.t:=by
   rw[h5,h1,a2];exact Zp (H.ids _ _ _ G) (H.mode _ _ _ G) _
  by_cases O:B.passE g.t=0
  case neg=>rw[Nn rfl O]at h;cases h
  case pos=>
   cases hd:L.drop (j+1)with
   |nil=>
    rw[hd,Bx.wk.eq_def]at h;dsimp only at h;rw[NO (by simp[O])]at h;split at h
    .cases h
    .injection h with h
     subst h;exact⟨YU,Z,nZ _,λe=>(by cases e),λ_ e=>(by rw[e]at I;simp at I)⟩
   |cons s ab=>
    rw[hd,Ng O]at h;have ad:L[j+1]? =some s:=by
     have:=RX (λl=>l[0]?) hd;simpa using this
    have ak:L.drop (j+1+1)=ab:=by
     have:=RX List.tail hd;simpa using this
    rw[<-ak]at h;exact Zv H J n (j+1) _ f s oM ad rfl rfl rfl rfl rfl Z h
theorem I1{l:List UInt8}(h:Dq l=0):(∀s∈Bo l,Bf s=true)/\(Bo l).length<=6/\(l≠[47]->Bo l≠[]):=by grind [Bo,GI,Dq,If,fO]
theorem Eg(l:List UInt8):(Bo l).length<=1000/\∀s∈Bo l,s≠⟨#[]⟩:=by
 by_cases h:Dq l=0
 .obtain⟨G,I,_⟩:=I1 h
  refine⟨by omega,λs H e=>?_⟩;have:=G s H;rw[e]at this;exact absurd this oD
 all_goals grind [Bo]
theorem Zd{B:Bx}:∀(n:Nat) (g:Fd) (L:List Fl),B.wk g n L≠.error 0
 |0,g,L=>λh=>by
  rw[Bx.wk.eq_def]at h;cases L<;>cases h
 |n+1,g,L=>λh=>by
  by_cases G:B.passE g.t=0
  case neg=>
   rw[Nn rfl G]at h;injection h with h
   exact G h
  case pos=>
   cases L with
   |nil=>
    rw[Bx.wk.eq_def]at h;dsimp only at h;rw[NO (by simp[G])]at h;split at h
    .injection h with h
     cases h
    .cases h
   |cons q L=>
    rw[Ng G]at h;exact Zd n _ L h
theorem Wy{E D:Int}(h:Ao E=Ao D):E=D:=by grind [Ao]
abbrev Gv:=Th×Th×Bool×Nd×Int
def Fd.pur(f:Fd):Gv:=(f.t,f.dir,f.there,f.x,f.ly)
structure Lj (xs:List Nd) (ry:List BA) (L:List Fl):Prop where
 rL:∀(j:Nat) f,L[j]? =some f->∃q r,AX xs (ry.take j)=q::r/\f.x=q.1.with []/\f.ly=q.2
 len:L.length=ry.length+1\/L.length<=ry.length/\AX xs (ry.take L.length)=[]
theorem Lj.le{L L':List Fl}(h:Lj xs ry L)(h':Lj xs ry L'):L.length<=L'.length:=by
 rcases Nat.lt_or_ge L'.length L.length with G|G
 .obtain⟨q,r,I,_⟩:=h.rL L'.length _ (NA G)
  rcases h'.len with e|⟨_,e⟩
  .rcases h.len with H|⟨H,_⟩<;>omega
  all_goals grind
 .exact G
theorem Lj.same{L L':List Fl}(h:Lj xs ry L)(h':Lj xs ry L'):L.map (λf=>(f.x,f.ly))=L'.map (λf=>(f.x,f.ly)):=by
 have ab:=Nat.le_antisymm (h.le h')<|h'.le h;refine List.ext_getElem? λi=>?_;rw[R6,R6]
 rcases Nat.lt_or_ge i L.length with H|H
 .have I:=NA H
  have J:=NA (l:=L') (i:=i) oM;obtain⟨q,r,O,a2,a3⟩:=h.rL i _ I;obtain⟨ad,ak,G,Z,b3⟩:=h'.rL i _ J;rw[O]at G;injection G with G
  subst G;rw[I,J,tx,tx,a2,a3,Z,b3]
 .rw[tP H,tP oM]
structure Bk where
 us:List Rg
 gs:List Rg
 xs:List Nd
 u:Int
 g:Int
 cs:List Int
 k:Int
def Bk.bx(c:Bk):Bx:=⟨⟨none,none,0,0,c.us,c.gs⟩,none,0,c.xs,c.u,c.g,none,0,c.cs,c.k,0⟩
def Bx.cor(B:Bx):Bk:=⟨B.M.us,B.M.gs,B.xs,B.u,B.g,B.cs,B.k⟩
theorem Y7{h':Hd}{ly:Int}{d:Th}:({B.fd x h ly with dir:=d}:Fd).pur=({B.cor.bx.fd x h' ly with dir:=d}:Fd).pur:=by
 cases x;rfl
theorem SS{B:Bx}:∀(n:Nat) (g G:Fd) (L L':List Fl),g.pur=G.pur->L.map (λf=>(f.x,f.ly))=L'.map (λf=>(f.x,f.ly))->(B.wk g n L).map Fd.pur=(B.cor.bx.wk G n L').map Fd.pur
 |0,g,G,L,L',h,_=>by
  have Z:B.wk g 0 L=.ok g:=by rw[Bx.wk.eq_def]
  have ab:B.cor.bx.wk G 0 L'=.ok G:=by rw[Bx.wk.eq_def]
  rw[Z,ab];exact RX Except.ok h
 |n+1,g,G,L,L',h,hL=>by
  have I:g.t=G.t:=RX (λx=>x.1) h;have J:B.passE g.t=B.cor.bx.passE G.t:=by rw[I];rfl
  by_cases H:B.passE g.t=0
  .have O:=J▸H
   cases L with
   |nil=>
    cases L' with
    |nil=>
     rw[PO H,PO O,I]
    |cons _ _=>cases hL
   |cons f L=>
    cases L' with
    |nil=>cases hL
    |cons ad L'=>
     rw[Ng H,Ng O];injection hL with h1 h2
     injection h1 with h1 h3
     refine SS n _ _ L L' ?_ h2;rw[h1,h3,I];exact Y7
  .rw[Nn rfl H,Nn (E:=B.passE g.t) J.symm H]
def Bk.rcQ(c:Bk)(p:BA)(r:Except Int Gv):Prop:=(Dq p.data.toList≠0/\r=.error (Dq p.data.toList))\/(Dq p.data.toList=0/\∃L f0,L[0]? =some f0/\Lj c.xs (Bo p.data.toList) L/\r=(c.bx.wk (c.bx.fd f0.x f0.h f0.ly) (Bo p.data.toList).length<|L.drop 1).map Fd.pur)
theorem Bk.rcQ_one{c:Bk}{r H:Except Int Gv}(h:c.rcQ p r)(h':c.rcQ p H):r=H:=by
 rcases h with⟨I,rfl⟩|⟨I,L,f0,J,O,rfl⟩
 .rcases h' with⟨_,rfl⟩|⟨e,_⟩
  all_goals grind
 .rcases h' with⟨e,_⟩|⟨_,L',ak,Z,ab,rfl⟩
  .grind
  .have ad:=O.same ab
   have G:=RX (λl=>l[0]?) ad;simp only[R6,J,Z,tx,RV,Prod.mk.injEq]at G;refine SS (B:=c.bx) _ _ _ _ _ ?_ ?_
   .rw[G.1,G.2]
    rfl
   all_goals grind [List.map_drop]
noncomputable def Bk.rcP (c:Bk) (p:BA):Except Int Gv:=@Classical.epsilon _ ⟨.error 0⟩<|c.rcQ p
theorem Bk.rcP_eq{c:Bk}{r:Except Int Gv}(h:c.rcQ p r):c.rcP p=r:=Bk.rcQ_one (Classical.epsilon_spec ⟨r,h⟩) h
noncomputable def Bk.atP (c:Bk) (G:Bool) (p:BA):Except Int Gv:=match c.rcP p with
 |.error E=>.error E
 |.ok f=>if G=true/\f.2.2.1=false then .error 5 else .ok f
def Dr(B:Bx)(w:World)(p:BA)(G:Bool)(P:Except Int Gv)(e:Ending):Prop:=∃cs E,e=.returned (.tuple #[Cg cs,Ao E])/\cs.length=21/\(∀v∈cs,v.oneCell'=true)/\(E=0->∃f:Fd,cs=f.l/\Dq p.data.toList=0/\f.ry=Bo p.data.toList/\Bi w.cell? f.na f.ry/\(f.ry.length<=f.nc/\f.nc<=9223372036854775807)/\Jc B w f.ry f/\(G=true->f.there=true)/\P=.ok f.pur)/\(E≠0->P=.error E)
theorem PP(Z:Kh B)(h:Hu B w p e):Dr B w p false (B.cor.atP false p) e:=by
 rcases h with⟨H,rfl⟩|⟨H,an,rN,ab,ad,ak,L,f0,O,J,rfl⟩
 .have G:B.cor.rcP p=.error (Dq p.data.toList):=Bk.rcP_eq (.inl ⟨H,rfl⟩)
  exact⟨FP.l,_,rfl,FU _,FT _,λe=>absurd e H,λ_=>by unfold Bk.atP;rw[G]⟩
 .have G:B.cor.rcP p=(B.wk (B.fd f0.x f0.h f0.ly) (Bo p.data.toList).length<|L.drop 1).map Fd.pur:=Bk.rcP_eq (.inr ⟨H,L,f0,O,⟨J.rL,J.len⟩,SS (B:=B) _ _ _ _ _ (Y7 (d:=Lf)) rfl⟩)
  cases hw:B.wk (B.fd f0.x f0.h f0.ly) (Bo p.data.toList).length (L.drop 1)with
  |error E=>
   rw[hw]at G;refine⟨FP.l,E,rfl,FU _,FT _,λe=>?_,λ_=>by unfold Bk.atP;rw[G];rfl⟩;grind [Zd]
  |ok f=>
   rw[hw]at G;have I:=Zv Z J (Bo p.data.toList).length 0 (B.fd f0.x f0.h f0.ly) f f0 oM O rfl rfl rfl rfl rfl YU hw;exact⟨Fd.l {f with na:=an,nc:=rN,ry:=Bo p.data.toList},0,rfl,FU _,FT _,λ_=>⟨_,rfl,H,rfl,ab,⟨ad,ak⟩,⟨I.t,I.dir,I.nd,I.there,I.no⟩,λe=>(by cases e),by unfold Bk.atP;rw[G];exact NO (λe=>by cases e.1)⟩,λe=>absurd rfl e⟩
theorem RD{c:Bk}:c.atP true p=match c.atP false p with
 |.error E=>.error E
 |.ok f=>if f.2.2.1=false then .error 5 else .ok f:=by
 unfold Bk.atP;cases c.rcP p with
 |error E=>rfl
 |ok f=>simp
theorem KH(ad:Kh B)(h:ay B w p e):Dr B w p true (B.cor.atP true p) e:=by
 obtain⟨cs,E,O,ak,aA,a1,rfl⟩:=h;obtain⟨al,D,G,ao,ap,Z,ar⟩:=PP ad ak;injection G with G
 injection G with G
 have I:=RX Array.toList G;injection I with e2 I
 injection I with e3 _
 have aw:cs=al:=by
  grind [Cg]
 have az:E=D:=Wy e3;subst aw az;have ab:∀f:Fd,cs=f.l->f.there=O:=λf f1=>by
  have:cs[11]? =some (.bool f.there):=by
   rw[f1];obtain⟨t,dir,na,nc,nm,a6,⟨k,m,u,g,o,rL,d,ks⟩,a7,ly⟩:=f;rfl
  grind
 by_cases H:E=0/\O=false
 .rw[NS H]
  obtain⟨f,f1,f2,f3,f4,f5,f6,_,f8⟩:=Z H.1;exact⟨FP.l,5,rfl,FU _,FT _,λe=>absurd e oD,λ_=>by rw[RD,f8];exact NS<|(ab f f1).trans H.2⟩
 .rw[NO H]
  refine⟨cs,E,rfl,ao,ap,λe=>?_,λe=>by rw[RD,ar e]⟩;obtain⟨f,f1,f2,f3,f4,f5,f6,_,f8⟩:=Z e;have J:=ab f f1;have J:f.there=true:=by
   grind
  exact⟨f,f1,f2,f3,f4,f5,f6,λ_=>J,by rw[RD,f8];exact NO (λe=>by rw[show f.pur.2.2.1=f.there from rfl,J]at e;cases e)⟩
theorem JP(G:World)(cs:List Value)(I:cs.length=21)(Z:∀v∈cs,v.oneCell'=true):∃H,(storeCells (aD G.heap.size 0) cs 0).run prog (G.alloc A2)=.ok () H/\Hid (Bj H G.heap.size 0 cs)/\Hid (Bw G H)/\Hid (∀o,H.frozen? (aD G.heap.size o)=false):=by
 have J:=Bj.new G _ rfl DB 216;have O:∀q,(G.alloc A2).frozen? (aD G.heap.size q)=false:=λq=>RB _ _ _ _ rfl;exact⟨_,En (P:=prog) J O (by rw[I];rfl) Z,FC cs J (by rw[I];rfl),Fc cs (rP _)<|(NB _ _).alloc (rP _) _,λo=>by rw[CF];exact O o⟩
theorem c7(w:World)(cop:Int)(cpath coth cname cdata:BA)(cA cB:Int)(G:Obj):Ce ((w.alloc<|AY cop cpath coth cname cdata cA cB).alloc G) w.heap.size 0 (iN cop)/\Ce ((w.alloc<|AY cop cpath coth cname cdata cA cB).alloc G) w.heap.size 1 (.string cpath)/\Ce ((w.alloc<|AY cop cpath coth cname cdata cA cB).alloc G) w.heap.size 2 (.string coth)/\Ce ((w.alloc<|AY cop cpath coth cname cdata cA cB).alloc G) w.heap.size 3 (.string cname)/\Ce ((w.alloc<|AY cop cpath coth cname cdata cA cB).alloc G) w.heap.size 4 (.string cdata)/\Ce ((w.alloc<|AY cop cpath coth cname cdata cA cB).alloc G) w.heap.size 5 (iN cA)/\Ce ((w.alloc<|AY cop cpath coth cname cdata cA cB).alloc G) w.heap.size 6 (iN cB):=⟨Bz<|rO _ _ _ _ rfl,Bz<|rO _ _ _ _ rfl,Bz<|rO _ _ _ _ rfl,Bz<|rO _ _ _ _ rfl,Bz<|rO _ _ _ _ rfl,Bz<|rO _ _ _ _ rfl,Bz<|rO _ _ _ _ rfl⟩
theorem Q0(w:World)(x:Int):Calls prog 160 #[iN x] w λe w'=>e=.returned (.bool<|decide (0<=x/\x<=4095))/\w=w':=by
 by_cases G:0<=x
 .have I:decide (0<=x)=true:=NY G
  by_cases H:x<=4095
  .have J:decide (x<=4095)=true:=NY H
   rw[NY ⟨G,H⟩];go_enter func160,ntmps160;go_wp2;go_ret;exact⟨rfl,rfl⟩
  .have J:decide (x<=4095)=false:=NM H
   rw[NM λh=>H h.2];go_enter func160,ntmps160;go_wp2;go_ret;exact⟨rfl,rfl⟩
 .have I:decide (0<=x)=false:=NM G
  rw[NM λh=>G h.1];go_enter func160,ntmps160;go_wp2;go_ret;exact⟨rfl,rfl⟩
theorem Ur(w:World)(x:Int):Calls prog 181 #[iN x] w λe w'=>e=.returned (.bool<|decide (-1<=x/\x<=65535))/\w=w':=by
 by_cases G:-1<=x
 .have I:decide (-1<=x)=true:=NY G
  by_cases H:x<=65535
  .have J:decide (x<=65535)=true:=NY H
   rw[NY ⟨G,H⟩];go_enter func181,ntmps181;go_wp2;go_ret;exact⟨rfl,rfl⟩
  .have J:decide (x<=65535)=false:=NM H
   rw[NM λh=>H h.2];go_enter func181,ntmps181;go_wp2;go_ret;exact⟨rfl,rfl⟩
 .have I:decide (-1<=x)=false:=NM G
  rw[NM λh=>G h.1];go_enter func181,ntmps181;go_wp2;go_ret;exact⟨rfl,rfl⟩
theorem Vb(w:World)(s:BA):Calls prog 165 #[.string s] w λe w'=>(∃r,e=.returned (.bool r)/\(r=false->s.data.toList≠[47])/\(r=true->s.data.toList=[47]))/\w=w':=by
 go_enter func165,ntmps165;go_wp2;go_ret;refine⟨⟨_,rfl,λh=>?_,λh=>?_⟩,rfl⟩
 .have h:=h
  have G:¬(s.toList=[47]):=by simpa using h
  rwa [tz]at G
 .have G:s.toList=[47]:=by simpa using h
  rwa [tz]at G
theorem Vc(w:World)(x y:Int):Calls prog 182 #[iN x,iN y] w λe w'=>e=.returned (iN (if x=-1 then y else x))/\w=w':=by
 by_cases h:x=-1
 .subst h
  rw[NS rfl];go_enter func182,ntmps182;go_wp2;go_ret;exact⟨rfl,rfl⟩
 .have hd:(x==-1)=false:=by simpa using h
  rw[NO h];go_enter func182,ntmps182;go_wp2;go_ret;exact⟨rfl,rfl⟩
theorem Tryz.info3:(prog.info? 3).map (λi=>(i.zero,i.size,i.bytes))=some (some<|iN 0,1,8):=by kernel_rfl
theorem size3:(prog.info? 3).map (·.size)=some 1:=by kernel_rfl
theorem dV{α:Type}(n:Nat)(z:α)(cs:List α)(h:cs.length=n):splice (List.replicate n z) 0 cs=cs:=by
 subst h;simp[splice]
theorem lA{g:Nat}{t:TypeId}(h:w.heap[g]? =some (.cells (zs.map<|Value.int .i64).toArray t (0,0))):AV w (some<|aD g 0) zs:=by
 refine .inr ⟨g,0,rfl,λi G=>?_⟩;simp[World.cell?,h,G]
theorem iC(h:AV w a zs)(o:Obj):0<(zs.map<|Value.int .i64).length->∃J,a=some J/\∀j v,(zs.map<|Value.int .i64)[j]? =some v->(w.alloc o).cell? (J.add j)=some v:=by
 intro O;rcases h with rfl|⟨b,G,rfl,Z⟩
 .simp at O
 .refine⟨_,rfl,λj v H=>?_⟩
  have I:j<zs.length:=by have:=(NE.1 H).1;simpa using this
  have ab:=Z j I;have ad:v=iN (zs.getD j 0):=by simp[I]at H;simp[I,H]
  subst ad;have ak:b<w.heap.size:=bL ab;have ao:(w.alloc o).cell? (aD b<|G+j)=w.cell? (aD b<|G+j):=World.cell?_alloc_lt _ _ _ ak;have e:((aD b G):Addr).add j=(aD b<|G+j):=by by_cases al:j=0<;>simp[Addr.add,al]
  grind
theorem lP(a:Option Addr)(cap:Nat)(zs:List Int)(w:World)(O:zs.length<=8)(h:AV w a zs):
 Calls prog 233 #[.slice a zs.length cap] w λe w'=>
  ∃g,e=.returned (sL g 0 zs.length zs.length)/\g=w.heap.size/\g<w'.heap.size/\AV w' (some<|aD g 0) zs/\Below w.heap.size w w':=by
 have Z:=run_make_row' (P:=prog) 39 3 (iN 0) 8 underlying39 Tryz.info3 rfl .i64 .i64 zs.length oM oM;go_enter func233,ntmps233;go_wp2_with (refine wpList_copy_splice rfl (.tmp 7) (.tmp 8) 39 39 rfl 3 underlying39 size3 (some<|aD w.heap.size 0) a zs.length zs.length zs.length cap rfl rfl w.heap.size 0 (List.replicate zs.length<|iN 0) 3 ?q1 (zs.map<|Value.int .i64) ?q2 (λI=>⟨rfl,iC h _ I⟩) ?q4 ?q5 w.heap.size w ?q6 (rP _) ?q7)
 case q1=>
  rw[show madeCells #[iN 0] zs.length=(List.replicate zs.length<|iN 0).toArray from by rw[<-toList_madeCells_one]];show(w.heap.push _)[w.heap.size]? =_;simp
 case q2=>simp
 case q4=>simp
 case q5=>intro v H;simp at H;obtain⟨z,_,rfl⟩:=H;rfl
 case q6=>exact bN
 case q7=>
  intro ab J hb;go_wp2;go_ret;have G:=J.out;rw[dV _ _ _ oS]at G;exact⟨_,rfl,rfl,(N3.1 G).1,lA G,hb⟩
def Dp(w:World)(b:Nat)(u g:Int)(v:Value)(c:Int):Prop:=
 w.cell? ⟨b,0,none⟩=some (iN u)/\w.cell? ⟨b,1,none⟩=some (iN g)/\w.cell? ⟨b,2,none⟩=some v/\w.cell? ⟨b,3,none⟩=some (iN c)/\∀o,w.frozen? ⟨b,o,none⟩=false
theorem Dp.new(w:World)(u g:Int)(v:Value)(c:Int):Dp (w.alloc<|.cells #[iN u,iN g,v,iN c] 41) w.heap.size u g v c:=
 ⟨aC,aC,aC,aC,λ_=>RB _ _ _ _ rfl⟩
theorem Dp.lt(h:Dp w b u g v c):b<w.heap.size:=NF _ _ h.1
theorem Dp.below(h:Dp w b u g v c)(hb:Below w.heap.size w w'):Dp w' b u g v c:=by
 have G:=h.lt;obtain⟨H,I,J,O,Z⟩:=h;exact⟨(hb.cell (p:=(aD b 0)) G).trans H,(hb.cell (p:=(aD b 1)) G).trans I,(hb.cell (p:=(aD b 2)) G).trans J,(hb.cell (p:=(aD b 3)) G).trans O,λo=>(hb.frozen (p:=(aD b o)) G).trans<|Z o⟩
theorem Dp.alloc(h:Dp w b u g v c)(o:Obj):Dp (w.alloc o) b u g v c:=h.below<|(NB _ _).alloc (rP _) _
theorem Dp.drew(h:Dp w b u g v c):Dp w.drew b u g v c:=h
theorem Dp.other(h:Dp w b u g v c){p:Addr}(G:p.block≠b)(x:Value):Dp (w.setCell p x) b u g v c:=by
 obtain⟨H,I,J,O,Z⟩:=h;have e:∀o,(w.setCell p x).cell? (aD b o)=w.cell? (aD b o):=λo=>NG _ _ _ _ (λe=>G (by rw[e]));exact⟨(e _).trans H,(e _).trans I,(e _).trans J,(e _).trans O,λo=>by rw[Kn];exact Z o⟩
theorem Dp.set(h:Dp w b u g v c)(G H:Int)(I:Value)(J:Int):
 Dp ((((w.setCell (aD b 0)<|iN G).setCell (aD b 1)<|iN H).setCell (aD b 2) I).setCell (aD b 3)<|iN J) b G H I J:=by
 obtain⟨O,Z,ab,ad,ak⟩:=h;refine⟨?_,?_,?_,?_,λo=>by simp[ak]⟩<;>simp[NG,World.cell?_setCell_same',O,Z,ab,ad]
theorem AV.other{g:Nat}(h:AV w (some<|aD g 0) zs){p:Addr}(G:p.block≠g)(x:Value):AV (w.setCell p x) (some<|aD g 0) zs:=by
 rcases h with h|⟨b,H,I,J⟩
 .exact .inl h
 .obtain⟨rfl,rfl⟩:g=b/\0=H:=by simpa using I
  exact .inr ⟨g,0,rfl,λi O=>(NG _ _ _ _ (λe=>G (by rw[e]))).trans<|J i O⟩
def Nw(n:Int):Value:=.tuple #[Fj 0 0 none 0 0 0,.iface 101<|iN n]
def Tc(G H c:Int)(g n:Nat):Value:=.tuple #[Fj G H (some ⟨g,0,none⟩) n n c,.nilIface]
theorem jH{G:Int}(h:DZ u g zs c=0)(J:CX H=true)(O:CX I=true)(Z:0<=G/\G<=15):DZ H I zs G=0:=by grind [DZ]
def JF(u g c G H:Int)(zs:List Int):Except Int Int:=if CX G=true/\CX H=true then(if(bits .and .i64 c 8==8)=true then .ok (if G=u\/G=0 then c else 0)else if G=u/\Gm g zs H=true then .ok c else .error 10)else .error 1
def P8(G:Nat)(w':World)(H I:Int)(zs:List Int)(e:Ending):Except Int Int->Prop
 |.error E=>e=.returned (Nw E)
 |.ok J=>∃b,e=.returned (Tc H I J b zs.length)/\AV w' (some ⟨b,0,none⟩) zs/\G<=b
def Ny(J:Nat)(w':World)(O Z:Int)(zs:List Int)(U ab:Int)(A:Option Addr)(n:Nat)(C:Int)(G:Value)(R:Except Int Int):Prop:=
 (∀E,R=.error E->G=.iface 101 (iN E))/\∀H,R=.ok H->G=.nilIface/\U=O/\ab=Z/\n=zs.length/\C=H/\∃I,A=some ⟨I,0,none⟩/\J<=I/\AV w' A zs
theorem P8.un{R:Except Int Int}(h:P8 G w' H I zs e R):∃U J A n C O,e=.returned (.tuple #[Fj U J A n n C,O])/\Ny G w' H I zs U J A n C O R:=by
 cases R with
 |error E=>exact⟨0,0,none,0,0,_,h,⟨λ_ e=>by cases e;rfl,λ_ e=>by cases e⟩⟩
 |ok ab=>obtain⟨b,rfl,Z,hb⟩:=h;exact⟨_,_,_,_,_,_,rfl,⟨λ_ e=>(by cases e),λ_ e=>by cases e;exact⟨rfl,rfl,rfl,rfl,rfl,b,rfl,hb,Z⟩⟩⟩
theorem Ny.to{H:Nat}{J:Int}{U O:Int}{A:Option Addr}{n:Nat}{C:Int}{Z:Value}{R:Except Int Int}(h:Ny G w I J zs U O A n C Z R)(hb:H<=G)(f:∀g,G<=g->AV w (some ⟨g,0,none⟩) zs->AV w' (some ⟨g,0,none⟩) zs):Ny H w' I J zs U O A n C Z R:=
 ⟨h.1,λak e=>by obtain⟨al,a2,a3,a4,a5,ab,rfl,ad,ao⟩:=h.2 ak e;exact⟨al,a2,a3,a4,a5,ab,rfl,Rz hb ad,f ab ad ao⟩⟩
theorem kw(u g c G H:Int)(a:Option Addr)(cap:Nat)(zs:List Int)(w:World)(a8:zs.length<=8)(bH:DZ u g zs c=0)(h:AV w a zs):
 Calls prog 187 #[Fj u g a zs.length cap c,iN G,iN H] w λe w'=>Below w.heap.size w w'/\P8 w.heap.size w' G H zs e (JF u g c G H zs):=by
 obtain⟨R,aA⟩:=Aq<|JF u g c G H zs;rw[aA.out];unfold JF at aA;have bY:=hid bH;go_enter func187,ntmps187;go_wp2_with fail
 refine(UQ u g c a cap zs _ a8 ?_).mono ?_
 .exact h.below<|bN.alloc oS _
 rintro e ba ⟨rfl,hb⟩;rw[DE bY.out];have az:Below w.heap.size w ba:=(bN.alloc oS _).trans<|hb.mono (by simp;omega);have Z:=((Dp.new w u g (.slice a zs.length cap) c).alloc<|.cells #[iN 0,iN 0,nL,iN 0] 41).below hb;have J:=(Dp.new (w.alloc<|ER u g a zs.length cap c) 0 0 nL 0).below hb;rw[ND]at J;have b0:=J.lt;have cx:=hid J;obtain⟨bb,bd,be,bf,bg⟩:=id Z;obtain⟨bn,bo,bp,bq,bs⟩:=id J;by_cases a1:CX G=true/\CX H=true
 case neg=>
  obtain rfl:=(NO a1).symm.trans aA.out;cases bu:CX G<;>cases bx:CX H
  case true.true=>exact absurd ⟨bu,bx⟩ a1
  all_goals
   go_wp2_with (go_at_call 232;refine(Hz _ _).mono ?_;rintro e w' ⟨rfl,rfl⟩)
   refine NZ (v:=Nw 1) (by simp[results,results187,go_sem,Nw, *]) rfl ⟨?_,rfl⟩;repeat refine Below.setCell ?_ oS _
   exact az
 obtain⟨bu,bx⟩:=id a1;have ar:Hid<|_=R:=(NS a1).symm.trans aA.out;go_upto_region 6 with(go_at_call 232;refine(Hz _ _).mono ?_;rintro e w' ⟨rfl,rfl⟩)
 obtain⟨b8,bA⟩:=Aq<|bits .and .i64 c 8==8;obtain⟨bi,bB⟩:=Aq<|Gm g zs H;go_cut [40]from 41 (λs ak=>s=.bool (!b8&&(G !=u|| !bi))/\Below ba.heap.size ba ak)
 case first=>
  go_wp2_with fail
  refine(O1 u g c 8 _ _).mono ?_;rintro e I ⟨rfl,O⟩;rw[bA.out];cases b8
  .obtain⟨bb,bd,be,bf,bg⟩:=id (Z.below O)
   cases al:G !=u
   .go_wp2_with fail
    refine(RK u g H c a cap zs _ a8<|h.below<|az.trans<|O.mono az.size).mono ?_;rintro e bk ⟨rfl,ao⟩;rw[bB.out];go_wp2;go_meet
    exact⟨by simp[al],O.trans<|ao.mono O.size⟩
   .go_wp2
    go_meet
    exact⟨by simp[al],O⟩
  .go_wp2
   go_meet
   exact⟨rfl,O⟩
 case rest=>
  obtain⟨rfl,O⟩:=hcut;generalize wc=I at*;have ao:=az.trans<|O.mono az.size;replace Z:=Z.below O;replace J:=J.below O;have bC:=h.below ao;rw[bA.out,bB.out]at ar;have b0:=J.lt;obtain⟨bb,bd,be,bf,bg⟩:=id Z;obtain⟨bn,bo,bp,bq,bs⟩:=id J;cases hbd:(!b8&&(G !=u|| !bi))
  case true=>
   obtain⟨rfl,h⟩:b8=false/\¬(G=u/\bi=true):=by simp at hbd;grind
   rw[NO oD,NO h]at ar;obtain rfl:=ar.out;go_wp2;refine NZ (v:=Nw 10) (by simp[results,results187,go_sem,Nw, *]) rfl ⟨?_,rfl⟩;repeat refine Below.setCell ?_ oS _
   exact ao
  obtain⟨a6,aw⟩:∃a6,a6=if G=u\/G=0 then c else 0:=⟨_,rfl⟩
  have ar:Hid<|R=.ok a6:=by show _=_;rw[<-ar.out,aw];cases b8<;>grind
  have b1:=hid aw;go_upto_region 8 with fail
  go_cut [9]from 51 (λs ak=>∃ap ab,s=pO ap 0/\ap≠w.heap.size/\ap≠w.heap.size+1/\ab≠ap/\I.heap.size<=ab/\I.heap.size<=ap/\Dp ak ap G H (sL ab 0 zs.length zs.length) c/\Dp ak w.heap.size u g (.slice a zs.length cap) c/\Dp ak (w.heap.size+1) 0 0 nL 0/\AV ak (some<|aD ab 0) zs/\Below w.heap.size w ak)
  case first=>
   have cD:=Z.lt;have cF:¬I.heap.size=w.heap.size:=by omega
   go_region_held3 (λw'=>w'.cell? ⟨w.heap.size,2,none⟩=some (.slice a zs.length cap)/\w'.cell? ⟨w.heap.size,3,none⟩=some (.int .i64 c)) (first|go_keep|(simp[*];done))
    (first|(go_at_call 233;refine(lP a cap zs _ a8 ?_).mono ?_;(first|exact bC|exact bC.below bN.drew);rintro e bk ⟨g3,rfl,bF,c3,bG,ad⟩;obtain⟨c4,c5⟩:=qN ad;have b2:=ad.size;simp at b2;have bl:=Dp.below (by first|exact Z.drew|exact(Z.alloc _).drew) ad;obtain⟨b4,q1,q2,b6,q4⟩:=id bl))
   all_goals
    go_wp2_with fail
    go_meet
    first
    |obtain rfl:g3=I.heap.size:=by simpa using bF
     exact⟨bk.heap.size,I.heap.size,rfl,by omega,by omega,by omega,by omega,by omega,Dp.new bk G H (sL I.heap.size 0 zs.length zs.length) c,bl.alloc _,(J.drew.below ad).alloc _,bG.below bN,(ao.drew.trans<|ad.mono ao.size).alloc (by omega) _⟩
    |obtain rfl:g3=I.heap.size+1:=by simpa using bF
     refine⟨I.heap.size,I.heap.size+1,rfl,by omega,by omega,by omega,by omega,by omega,((Dp.new I 0 0 nL 0).drew.below ad).set G H (sL (I.heap.size+1) 0 zs.length zs.length) c,?_,?_,?_,?_⟩
     .iterate 4 refine Dp.other ?_ (by simp;omega) _
      exact bl
     .iterate 4 refine Dp.other ?_ (by simp;omega) _
      exact(J.alloc _).drew.below ad
     .iterate 4 refine AV.other ?_ oS _
      exact bG
     .iterate 4 refine Below.setCell ?_ (by simp;omega) _
      exact(ao.alloc (by omega) _).drew.trans (ad.mono (by simp;omega))
  case rest=>
   obtain⟨ap,ab,rfl,c6,c8,c9,da,dd,b7,b9,ce,cf,ch⟩:=hcut;generalize wc=de at*;obtain⟨bb,bd,be,bf,bg⟩:=id b7;obtain⟨b4,q1,q2,b6,q4⟩:=id b9;obtain⟨bn,bo,bp,bq,bs⟩:=id ce;have cl:w.heap.size<=ab:=by omega
   obtain rfl:=ar.out;have aw:=b1.out;by_cases al:G=u;case' pos=>have co:(G !=u)=false:=(by simpa using al);rw[NS<|.inl al]at aw
   case' neg=>
    have co:(G !=u)=true:=by simpa using al
    by_cases a7:G=0;case' pos=>have cr:(G !=0)=false:=(by simpa using a7);rw[NS<|.inr a7]at aw
    case' neg=>have cr:(G !=0)=true:=(by simpa using a7);rw[NO λe=>e.elim al a7]at aw
   all_goals
    go_wp2;refine NZ (v:=Tc G H a6 ab zs.length) (by simp[results,results187,go_sem,Tc, *]) rfl ⟨?_,ab,by first|rfl|simp[*],?_,cl⟩
    .repeat refine Below.setCell ?_ (by simp<;>omega) _
     exact ch
    .repeat refine AV.other ?_ (by simp<;>omega) _
     exact cf
end Go.Proofs.YtchpdmjlicmdaaaGreatDoor
