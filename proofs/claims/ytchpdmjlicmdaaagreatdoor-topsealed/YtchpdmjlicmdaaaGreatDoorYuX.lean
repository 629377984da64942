/- Part: Yu Yk Yv Ys. -/
import Derived.Test.YtchpdmjlicmdaaaGreatDoorYbX
set_option maxRecDepth 100000
set_option maxHeartbeats 16000000
namespace Go.Proofs.YtchpdmjlicmdaaaGreatDoor
open Go.RowKit Go.Proofs.Tryz
variable {V x0:Nd}{W w:World}{rM:List Nd}{B:Bx}{p:BA}{G H I b:Nat}{P:Except Int Gv}{e:Ending}{cs us:List Value}
abbrev qZ:Oper:=Bp "move.go:32" (some 40) (.fieldAddr 216 (Bb 1) 0) 0 #[] none
abbrev rk:Oper:=Bp "move.go:32" (some 41) (.fieldAddr 214 (Bb 40) 0) 0 #[Bs 0] none
abbrev ZJ:Oper:=Bp "move.go:32" (some 42) (.load 4<|Bb 41) 4 #[Bs 1] none
abbrev ZV:Oper:=Bp "move.go:32" (some 43) (.move<|Bb 42) 4 #[Bs 2] none
abbrev ZL:Oper:=Bp "move.go:32" (some 44) (.move<|Bb 0) 223 #[Da 3] (some (3,true))
abbrev ZW:Oper:=Bp "move.go:32" (some 45) (.nilCheck<|Bb 44) 0 #[Bs 4,Da 3] (some (3,true))
abbrev Z3:Oper:=Bp "move.go:32" (some 46) (.fieldAddr 117 (Bb 45) 1) 0 #[Bs 5,Da 3] (some (3,true))
abbrev Z0:Oper:=Bp "move.go:32" (some 47) (.load 115<|Bb 46) 115 #[Bs 6,Da 3] (some (3,true))
abbrev ZU:Oper:=Bp "move.go:32" (some 48) (.fieldAddr 216 (Bb 2) 2) 0 #[Da 3] (some (3,true))
abbrev Z7:Oper:=Bp "move.go:32" (some 49) (.load 50<|Bb 48) 50 #[Bs 8,Da 3] (some (3,true))
abbrev Zw:Oper:=Bp "move.go:32" (some 50) (.call {callee:=Callee.value<|Operand.func 177,args:=#[Bb 47,Bb 49],argTypes:=#[115,50]}) 4 #[Bs 7,Bs 9,JK 3,Da 3] (some (3,true))
abbrev Zt:Oper:=Bp "move.go:32" (some 51) (.pick (Bb 43) (Bb 50)<|.const<|Value.bool false) 4 #[Bs 3,Bs 10] none
abbrev Zy:Oper:=Bp "move.go:32" (some 52) (.fieldAddr 31 (Bb 7) 4) 0 #[Bh 0,Bh 1,Bh 2,Bh 3,Bh 4,Bh 5,Bh 6,Bh 7,Bh 8,Bh 9,Bh 10,Bh 11] none
abbrev Zm:Oper:=Bp "move.go:32" none (.store 4 (Bb 52)<|Bb 51) 0 #[Bs 12,Bs 11,JK 10,Bh 0,Bh 1,Bh 2,Bh 3,Bh 4,Bh 5,Bh 6,Bh 7,Bh 8,Bh 9,Bh 10,Bh 11] none
theorem qO{n:Nat}(h:DF n V)(ry:List BA)(H:1<=n):AI ((Ct ry V).getD zN)/\A0 ((Ct ry V).getD zN)/\cnt ((Ct ry V).getD zN)<=n:=by
 cases hq:Ct ry V with
 |none=>exact⟨by show AI zN;unfold zN;rw[AI,Co];exact⟨⟨by decide,λr G=>by cases G⟩,by decide,trivial⟩,by show A0 zN;unfold zN;rw[A0,CJ];exact⟨by unfold A4;omega,by unfold A4;omega,trivial⟩,by show cnt zN<=_;have:cnt zN=1:=rfl;omega⟩
 |some y=>
  obtain⟨a,b,c⟩:=Rq hq h.lil h.ids;exact⟨a,b,by have:=h.cnt;show cnt y<=_;omega⟩
theorem SM{k:Nd->Int×Nd}:JB (0,V) k=k V:=NS rfl
theorem SQ{E:Int}{k:Nd->Int×Nd}(h:E≠0):JB (E,V) k=(E,V):=NO h
def Nd.opS(b:Bool):Nd->Nd
 |.mk k m u g _ a d ks=>.mk k m u g b a d ks
def NK(us gs:List Rg)(x0:Nd)(rM:List Nd)(ry G:List BA)(dir:Bool):Int×Nd:=JB (Cx us gs x0 rM ry) λI=>JB (Cx us gs I rM G.dropLast) λV=>JB (EW us gs V rM ry) λH=>DJ (((Ct ry V).getD zN).opS<|dir&&G5 (H::rM) G) G H
theorem ix{w0:World}{M:Df}(bA:Bw w0 w)(e8:DF 60 x0)(cF:G9 60 x0 rM){an:Option Addr}{rN:Nat}{ry:List BA}(bd:Bi w0.cell? an ry)(dT:∀s∈ry,Bf s=true)(b7:ry≠[])(e9:ry.length<=6)(d0:ry.length<=rN/\rN<=9223372036854775807)
 {ar:Option Addr} {ad:Nat} {G:List BA} (fa:Bi w0.cell? ar G) (d1:∀s∈G,Bf s=true) (d2:G≠[]) (fb:G.length<=6) (c3:G.length<=ad/\ad<=9223372036854775807)
 {I ap:Nat} {dir:Bool} (d3:Ce w I 0<|.bool dir) (fc:Ce w I 10<|.slice an ry.length rN) (d4:Ce w ap 10<|.slice ar G.length ad):
 Nt w0 w M x0 rM (NK M.us M.gs x0 rM ry G dir) (.func (.func 173) #[] #[pO I 0,pO ap 0]):=by
 refine⟨_,_,rfl,λargs w=>by kernel_rfl,λW O al lc b9 hO c4 fd=>?_⟩;have a0:=Aj b9 d3;have fe:=Aj b9 fc;have a2:=Aj b9 d4;have bB:I<w.heap.size:=NF _ _ d3;have c5:ap<w.heap.size:=NF _ _ d4;obtain⟨dl,d5⟩:=Aq<|G.dropLast.length;have hP:G.dropLast.length<=G.length:=by rw[tF];omega
 have ff:∀s∈G.dropLast,Bf s=true:=λs bd=>d1 s<|List.dropLast_subset _ bd;have d6:∀x∈rM,AI x:=λx hx=>(cF.low x hx).1
 have fg:Hid (∀aw,Calls prog 175 #[.slice ar G.length ad] aw λe w'=>e=.returned (.slice ar dl ad)/\Bw aw w'):=λaw=>by
  have e:=Ra aw ar ad G d2 c3;rw[d5.out]at e;exact e
 have bC:=hid<|Nf fd cF oM bd oM d0;have bF:Hid<|(Cx M.us M.gs x0 rM ry).1=0->DF 66 (Cx M.us M.gs x0 rM ry).2:=λZ=>by
  have e:=e8.up dT d6 Z;exact⟨e.lil,e.ids,by have:=e.cnt;omega⟩
 have bp:=hid cF;have c6:=hid d6;have d7:=hid bd;have c8:=hid fa;have c9:Hid<|(∀s∈ry,Bf s=true)/\ry≠[]/\ry.length<=6:=⟨dT,b7,e9⟩;have ce:Hid<|(∀s∈G,Bf s=true)/\G≠[]/\G.length<=6/\(∀s∈G.dropLast,Bf s=true)/\G.dropLast.length<=6:=⟨d1,d2,fb,ff,by omega⟩;have fh:=hid bA.size;have fo:=hid d0;have da:Hid<|G.length<=ad/\ad<=9223372036854775807/\G.dropLast.length<=ad:=⟨c3.1,c3.2,by omega⟩;have d8:=hid b9;obtain⟨S,az⟩:=Aq<|NK M.us M.gs x0 rM ry G dir;rw[az.out];unfold NK at az;generalize Cx M.us M.gs x0 rM ry=P at*;obtain⟨E,bk⟩:=P;dsimp only at bC bF;show Calls prog 173 #[pO O 0,pO I 0,pO ap 0] W _;go_enter func173,ntmps173;go_wp2_with fail
 refine rQ bC ?_;rintro e fp ⟨rfl,dd,fs⟩;have aA:=fs.below (B:=w.heap.size) c4 d8.size;have c0:=(aA.cell (p:=⟨I,0,none⟩) bB).trans a0;have c1:=(aA.cell (p:=⟨I,10,none⟩) bB).trans fe;have c2:=(aA.cell (p:=⟨ap,10,none⟩) c5).trans a2;have d9:=hid<|d8.trans aA;have eb:=hid dd;by_cases Z:E=0
 case neg=>
  have be:=AP (n:=E) rfl Z;rw[be];go_wp2;go_ret;obtain rfl:(E,bk)=S:=by rw[<-az.out,SQ Z]
  exact⟨bk,by rw[be];rfl,eb,λe=>absurd e Z⟩
 case pos=>
  subst Z;rw[SM]at az;have ft:=bF.out (by first|rfl|trivial);have ed:=hid ft;have bC:Hid (∀aw,Bw fp aw->Calls prog 174 #[pO O 0,.slice ar dl ad] aw λe w'=>e=.returned (Ao (Cx M.us M.gs bk rM G.dropLast).1)/\BQ w0 w' O al lc M (Cx M.us M.gs bk rM G.dropLast).2 rM/\Az al aw w'):=λaw hb=>by
   have bG:=ce.out;have bf:=da.out;have e:=Nf (eb.below hb) (ed.sz bp) oM (VK c8 bG.2.1) (rN:=ad) oM ⟨bf.2.2,bf.2.1⟩;rw[d5.out]at e;exact e
  have bF:Hid<|(Cx M.us M.gs bk rM G.dropLast).1=0->DF 72 (Cx M.us M.gs bk rM G.dropLast).2:=λZ=>by
   have bG:=ce.out;have e:=ed.out.up bG.2.2.2.1 c6 Z;exact⟨e.lil,e.ids,by have:=e.cnt;omega⟩
  generalize Cx M.us M.gs bk rM G.dropLast=P at*;obtain⟨E,V⟩:=P;dsimp only at bC bF;rw[show Ao 0=Value.nilIface from rfl];go_wp2_with fail
  refine rQ (fg _) ?_;rintro e de ⟨rfl,bq⟩;have fx:Hid (Calls prog 174 #[pO O 0,.slice ar dl ad] de λe w'=>e=.returned (Ao E)/\BQ w0 w' O al lc M V rM/\Az al de w'):=bC de bq;go_wp2_with fail
  refine rQ fx ?_;rintro e a1 ⟨rfl,ee,gb⟩;have ef:=d9.out.trans<|bq.mono d9.size;have aA:=gb.below (B:=w.heap.size) c4 ef.size;have dg:=hid<|ef.trans aA;have gg:=(aA.cell (p:=⟨I,0,none⟩) bB).trans<|Aj bq c0;have bs:=(aA.cell (p:=⟨I,10,none⟩) bB).trans<|Aj bq c1;have eg:=(aA.cell (p:=⟨ap,10,none⟩) c5).trans<|Aj bq c2;have bH:=hid ee;by_cases Z:E=0
  case neg=>
   have be:=AP (n:=E) rfl Z;rw[be];go_wp2;go_ret;obtain rfl:(E,V)=S:=by rw[<-az.out,SQ Z]
   exact⟨V,by rw[be];rfl,bH,λe=>absurd e Z⟩
  case pos=>
   subst Z;rw[SM]at az;have cf:=bF.out (by first|rfl|trivial);have ej:Hid (∀w',Bw a1 w'->Calls prog 85 #[pO O 0] w' λe dj=>(∃h',e=.returned (At V h')/\Am dj.cell? V h')/\Bw w' dj):=λw' hb=>by
    have ek:=bH.out.below hb;refine rQ (IU ek.c2 ek.lay) ?_;rintro e dj ⟨⟨h',gl,_,go⟩,gq⟩;exact⟨⟨h',gl,go⟩,gq⟩
   have gr:=hid<|d7.on<|Ai ee.base;obtain⟨Y,dk⟩:=Aq<|(Ct ry V).getD zN;rw[dk.out]at az;have em:Hid<|AI Y/\A0 Y/\cnt Y<=72:=by
    show _/\_;rw[<-dk.out];exact qO cf ry oM
   have en:Hid<|cnt V<=800/\A7 V:=by
    have:=cf.cnt;exact⟨by omega,Id V oM cf.lil⟩
   have dm:=hid cf;have gu:Hid<|ry.length<=1000:=by have:=c9.out.2.2;show _<=_;omega
   have gv:Hid (∀aw,BQ w0 aw O al lc M V rM->Calls prog 169 #[pO O 0,.slice an ry.length rN] aw λe w'=>e=.returned (Ao (EW M.us M.gs V rM ry).1)/\BQ w0 w' O al lc M (EW M.us M.gs V rM ry).2 rM/\Az al aw w'):=λaw dn=>by
    have bY:=c9.out;refine UA dn (dm.sz bp) d7 bY.2.1 oM fo λZ=>?_;have e:=dm.out.up (ry:=ry.dropLast) (λs bd=>bY.1 s<|List.dropLast_subset _ bd) c6 Z;rw[tF]at e;exact⟨e.lil,e.ids,by have:=e.cnt;omega,bp.low,bp.len⟩
   have eo:Hid<|(EW M.us M.gs V rM ry).1=0->DF 79 (EW M.us M.gs V rM ry).2:=λZ=>by
    have bY:=c9.out;have e:=dm.out.remove bY.2.1 bY.1 c6 Z;exact⟨e.lil,e.ids,by have:=e.cnt;omega⟩
   rw[show Ao 0=Value.nilIface from rfl];obtain⟨gw,gx⟩:∃b,Hid<|(Ct ry V).isSome=b:=⟨_,rfl⟩;obtain⟨k,m,u,g,o,rL,d,ks⟩:=Y;have a8:Ce a1.drew I 10<|.slice an ry.length rN:=bs;have dp:Hid<|Bw a1 a1.drew:=(NB _ _).drew;have ch:Hid<|Bw a1 (a1.alloc AO).drew:=((NB _ _).alloc (rP _) _).drew;have ep:Hid (∀(bb:World) (bl:Hd),Bw a1 bb->Am bb.cell? V bl->Calls prog 176 #[At V bl,.slice an ry.length rN] bb λe eq=>(∃h',e=.returned (.tuple #[(Ba k m u g o rL d ks h'),.bool gw])/\Am eq.cell? (.mk k m u g o rL d ks) h')/\Bw bb eq):=λbb bl gy cl=>by
    have e:=OJ cl an rN ry (gr.on<|Ai gy) gu en.1 en.2;rw[dk.out,gx.out]at e;exact e
   have er:I<a1.heap.size:=NF a1 ⟨I,10,none⟩ bs;go_upto_region 7 with fail
   go_cut [7]from 33 (λs dr=>Gw a1 dr (.mk k m u g o rL d ks) s)
   case first=>
    have gz:Ce (a1.alloc AO).drew I 10<|.slice an ry.length rN:=Aj ch bs;go_region_held3 (λw'=>Ce w' I 10<|.slice an ry.length rN) (first|with_reducible exact a8|with_reducible exact gz|with_reducible exact bg|with_reducible exact ds|(with_reducible refine Bz ?_;first|with_reducible exact a8|with_reducible exact bg|with_reducible exact ds)|(with_reducible refine Jq ?_ ds;show I≠_;first|omega|(have g4:=es.out;omega))) (first|(go_at_call 85;(first|((with_reducible refine rQ (ej.out _ ch.out) ?_);rintro e bb ⟨⟨bl,rfl,cl⟩,q6⟩;have a6:=hid<|ch.out.trans<|q6.mono ch.out.size;have g0:=hid<|((Dg.new a1).below (NB _ _).drew).below q6)|((with_reducible refine rQ (ej.out _ dp.out) ?_);rintro e bb ⟨⟨bl,rfl,cl⟩,q6⟩;have a6:=hid<|dp.out.trans<|q6.mono dp.out.size));have bg:Ce bb I 10<|.slice an ry.length rN:=Aj a6 bs;have eu:=hid cl)|(go_at_call 176;(first|((with_reducible refine rQ (ep.out _ bl a6.out eu.out) ?_);rintro e ev ⟨⟨bi,rfl,ew⟩,q7⟩;have b0:=hid<|a6.out.trans<|q7.mono a6.out.size;try have co:=hid<|g0.out.below q7)|((with_reducible refine rQ (ep.out _ bl (a6.out.alloc a6.out.size AO)<|eu.out.on<|Ai bN) ?_);rintro e ev ⟨⟨bi,rfl,ew⟩,q7⟩;have b0:=hid<|(a6.out.alloc a6.out.size AO).trans<|q7.mono (a6.out.alloc a6.out.size AO).size;have es:=hid a6.out.size;have co:=hid<|(Dg.new bb).below q7));have ds:Ce ev I 10<|.slice an ry.length rN:=Aj b0 bs;have du:=hid ew;try(obtain⟨⟨⟨z0,g2,g5,z3,z4,z5,g6,g7⟩,g8⟩,_⟩:=id co.out;obtain⟨hQ,hR,hS,hT,ey,hU,hV,hW⟩:=f8 g8)))
    all_goals
     go_wp2_with fail
     go_meet
     first
     |have q:=Gw.st co du es b0.out
      simp only[As]at q;exact q
     |have q:=Gw.st co du (rP _) b0.out
      simp only[As]at q;exact q
     |exact Gw.al du b0
   case' rest=>
    obtain⟨H,bi,rfl,hX,b1,g9,ha,hc⟩:=hcut;generalize wc=he at*
   have f0:=(b1.cell (p:=⟨I,0,none⟩) er).trans gg;have f1:=(b1.cell (p:=⟨I,10,none⟩) er).trans bs;have f2:=(b1.cell (p:=⟨ap,10,none⟩)<|NF _ _ eg).trans eg;have ez:=bH.out.below b1;have eB:=hid<|gv he ez;have hf:=hid ez;have eD:=hid g9;have hg:=hid ha;have hh:=hid hc;have hi:=hid<|dg.trans<|b1.mono dg.size;have dw:Hid<|al<H/\O<H/\I<H/\ap<H/\w0.heap.size<=H:=by
    have q1:=bH.out.ltn;have q2:=bH.out.lts;have bq:=dg.out.size;have q4:=fh.out;refine⟨?_,?_,?_,?_,?_⟩<;>omega
   generalize EW M.us M.gs V rM ry=P at*;obtain⟨E,a7⟩:=P;dsimp only at eB eo;go_wp2_with fail
   refine rQ eB ?_;rintro e ba ⟨rfl,hj,cr⟩;have b7:H≠al:=by have:=dw.out.1;omega
   have aA:=cr.below (B:=w.heap.size) c4 hi.size;have hk:=(aA.cell (p:=⟨I,0,none⟩) bB).trans f0;have hl:=(aA.cell (p:=⟨ap,10,none⟩) c5).trans f2;have eE:=hid hj;have eF:=hid<|eD.but cr b7;have hm:=hid<|(hf.off hg).on<|Pj cr;have hn:Hid (∀J,8<=J->ba.cell? ⟨H,J,none⟩=none):=λJ b2=>(cr.cell (p:=⟨H,J,none⟩) eD.1.lt b7).trans<|hh J b2;by_cases Z:E=0
   case neg=>
    have be:=AP (n:=E) rfl Z;rw[be];go_wp2;go_ret;obtain rfl:(E,a7)=S:=by rw[<-az.out,SQ Z]
    exact⟨a7,by rw[be];rfl,eE,λe=>absurd e Z⟩
   case pos=>
    subst Z;rw[SM]at az;have ho:=eo.out (by first|rfl|trivial);have dx:=hid ho;have bu:Bw ba ba.drew:=(NB _ _).drew;have bn:=hid<|eE.below bu;have a8:Ce ba.drew I 0 (.bool dir)/\Ce ba.drew ap 10 (.slice ar G.length ad)/\Ce ba.drew O 2 (sL al 0 (rM.length+1) lc):=⟨Aj bu hk,Aj bu hl,bn.c2⟩;have bo:=hid<|eF.below bu;have cx:=hid<|hm.on<|Ai bu;have cD:Hid (∀J,8<=J->ba.drew.cell? ⟨H,J,none⟩=none):=λJ b2=>(bu.cell (p:=⟨H,J,none⟩) eF.1.lt).trans<|hn J b2;obtain⟨R,eL⟩:=Aq<|G5 (a7::rM) G
    rw[eL.out]at az;have hp:Hid (Calls prog 177 #[sL al 0 (rM.length+1) lc,.slice ar G.length ad] ba.drew λe w'=>e=.returned (.bool R)/\Bw ba.drew w'):=by
     have bG:=ce.out;have bf:=da.out;have e:=Rh (w:=ba.drew) (S:=λ_=>false) (xs:=a7::rM) (a:=some ⟨al,0,none⟩) (cap:=lc) (an:=ar) (rN:=ad) (ry:=G) (λ_ hq=>(by cases hq)) (by rw[Fe];exact bn.lay) (by rw[Fe];exact c8.on<|Ai bn.base) ((dx.sz bp).ok oM) oM ⟨bf.1,bf.2.1⟩;rw[eL.out]at e;exact e
    have hr:Hid (∀(ab:Bool) (ao:World),BQ w0 ao O al lc M a7 rM->Am ao.cell? (.mk k m u g o rL d ks) bi->AC ao H (.mk k m u g o rL d ks) bi->(∀J,8<=J->ao.cell? ⟨H,J,none⟩=none)->Calls prog 178 #[pO O 0,.slice ar G.length ad,(Ba k m u g ab rL d ks bi)] (ao.setCell ⟨H,4,none⟩<|.bool ab) λe w'=>e=.returned (Ao (DJ (.mk k m u g ab rL d ks) G a7).1)/\BQ w0 w' O al lc M (DJ (.mk k m u g ab rL d ks) G a7).2 rM/\Az al (ao.setCell ⟨H,4,none⟩<|.bool ab) w'):=λab ao dn hs eX e0=>by
     have hx:=dw.out;have bG:=ce.out;have bf:=da.out;have bx:=em.out;have e1:=(Az.refl H ao).setCell 4 none<|.bool ab;have bd:=dn.other e1 hx.2.2.2.2 oM oM<|MY eX.1 e0;exact OS bd (dx.sz bp) oM (x:=(.mk k m u g ab rL d ks)) (hd:=bi) (OT<|Ns e1 eX.1 e0 hs) (by have q:=bx.1;rw[AI]at q⊢;exact q) (by have q:=bx.2.2;rw[cnt]at q⊢;omega) c8 oM ⟨bf.1,bf.2.1⟩
    have ht:Hid (∀ab:Bool,(DJ (.mk k m u g ab rL d ks) G a7).1=0->DF 400 (DJ (.mk k m u g ab rL d ks) G a7).2):=λab hu=>by
     have bx:=em.out;have e:=dx.out.put (z:=(.mk k m u g ab rL d ks)) (k:=72) (by have q:=bx.1;rw[AI]at q⊢;exact q) (by have q:=bx.2.1;rw[A0]at q⊢;exact q) (by have q:=bx.2.2;rw[cnt]at q⊢;exact q) hu;exact⟨e.lil,e.ids,by have:=e.cnt;omega⟩
    have hx:=dw.out;obtain⟨hY,hZ,h0,h1,h2⟩:=hx;rw[show Ao 0=Value.nilIface from rfl];go_upto_region 11 with fail
    obtain⟨ab,dy⟩:=Aq<|dir&&R;go_cut []from 40 (λdr=>∃ao,dr=ao.setCell ⟨H,4,none⟩ (.bool ab)/\BQ w0 ao O al lc M a7 rM/\Am ao.cell? (.mk k m u g o rL d ks) bi/\AC ao H (.mk k m u g o rL d ks) bi/\(∀J,8<=J->ao.cell? ⟨H,J,none⟩=none)/\Ce ao ap 10 (.slice ar G.length ad))
    case first=>
     refine wp_region_held_drew (S:=λw'=>Ce w' I 0 (.bool dir)/\Ce w' ap 10 (.slice ar G.length ad)/\Ce w' O 2 (sL al 0 (rM.length+1) lc)) oK a8 λak=>?_;refine tI 0 qZ (pO I 0) ak ?_;simp only[tk];refine tI 1 rk (pO I 0) ak ?_;simp only[tk];cases dir with
     |false=>
      refine tI 2 ZJ (.bool false) ak ?_;simp only[tk];refine tI 3 ZV (.bool false) ak ?_;simp only[tk];refine tO 4 ZL ak ?_;simp only[tk];refine tO 5 ZW ak ?_;simp only[tk];refine tO 6 Z3 ak ?_;simp only[tk];refine tO 7 Z0 ak ?_;simp only[tk];refine tO 8 ZU ak ?_;simp only[tk];refine tO 9 Z7 ak ?_;simp only[tk];refine tO 10 Zw ak ?_;simp only[tk];refine tI 11 Zt (.bool false) ak ?_;simp only[tk];refine tI 12 Zy (pO H 4) ak ?_;simp only[tk];refine wpAnyH_ready (rs:=[13]) oK oS ?_;refine AllReadyH.cons (o:=Zm) rfl (λK b4=>?_) AllReadyH.nil;rw[NS<|by rfl];obtain⟨⟨hv,hw,hy,hz,hA,hB,hC,hD⟩,dz⟩:=bo.out;have ey:=dz 4;go_simp;refine b4 _ _ ⟨(BO (by show I≠H;omega)).trans a8.1,(BO (by show ap≠H;omega)).trans a8.2.1,(BO (by show O≠H;omega)).trans a8.2.2⟩ λhE=>?_;refine KL oK ?_ _;go_wp2;go_meet
      exact⟨ba.drew,by rw[<-dy.out];rfl,bn,cx,bo,cD,a8.2.1⟩
     |true=>
      refine tI 2 ZJ (.bool true) ak ?_;simp only[tk];refine tI 3 ZV (.bool true) ak ?_;simp only[tk];refine tI 4 ZL (pO O 0) ak ?_;simp only[tk];refine tI 5 ZW (pO O 0) ak ?_;simp only[tk];refine tI 6 Z3 (pO O 2) ak ?_;simp only[tk];refine tI 7 Z0 (sL al 0 (rM.length+1) lc) ak ?_;simp only[tk];refine tI 8 ZU (pO ap 10) ak ?_;simp only[tk];refine tI 9 Z7 (.slice ar G.length ad) ak ?_;simp only[tk];refine wpAnyH_ready (rs:=[10]) oK oS ?_;refine AllReadyH.cons (o:=Zw) rfl (λK b4=>?_) AllReadyH.nil;rw[NS<|by rfl];go_simp;refine rQ hp ?_;rintro e b6 ⟨rfl,q8⟩;have bg:Ce b6 I 0 (.bool true)/\Ce b6 ap 10 (.slice ar G.length ad)/\Ce b6 O 2 (sL al 0 (rM.length+1) lc):=⟨Aj q8 a8.1,Aj q8 a8.2.1,Aj q8 a8.2.2⟩;have e2:=hid<|bo.below q8;have hG:=hid<|bn.below q8;have hH:=hid<|cx.on<|Ai q8;have hI:Hid (∀J,8<=J->b6.cell? ⟨H,J,none⟩=none):=λJ b2=>(q8.cell (p:=⟨H,J,none⟩) bo.1.lt).trans<|cD J b2;go_wp2_with fail
      refine b4 _ _ bg λe3=>?_;refine RF (i:=11) (oi:=Zt) (v:=.bool R) rfl oK oK oK (λ_ _ _ h=>h) (Or.inl ⟨by rfl,λw bA=>by obtain⟨hJ,hK,dd⟩:=bA;go_simp⟩) e3 ?_;simp only[tk];refine RF (i:=12) (oi:=Zy) (v:=pO H 4) rfl oK oK oK (λ_ _ _ h=>h) (Or.inl ⟨by rfl,λw bA=>by obtain⟨hJ,hK,dd⟩:=bA;go_simp⟩) e3 ?_;simp only[tk];refine wpAnyH_ready (rs:=[13]) oK oS ?_;refine AllReadyH.cons (o:=Zm) rfl (λK b4=>?_) AllReadyH.nil;rw[NS<|by rfl];obtain⟨⟨hv,hw,hy,hz,hA,hB,hC,hD⟩,dz⟩:=e2.out;have ey:=dz 4;go_simp;refine b4 _ _ ⟨(BO (by show I≠H;omega)).trans bg.1,(BO (by show ap≠H;omega)).trans bg.2.1,(BO (by show O≠H;omega)).trans bg.2.2⟩ λhE=>?_;refine KL oK ?_ _;go_wp2;go_meet
      exact⟨b6,by rw[<-dy.out];rfl,hG,hH,e2,hI,bg.2.1⟩
    case rest=>
     have az:Hid<|DJ (.mk k m u g ab rL d ks) G a7=S:=by rw[<-dy.out];cases dir<;>exact az
     obtain⟨ao,rfl,bn,cx,bo,cD,T⟩:=hcut;have h3:Ce (ao.setCell ⟨H,4,none⟩<|.bool ab) ap 10<|.slice ar G.length ad:=(BO (by show ap≠H;omega)).trans T;obtain⟨⟨z0,g2,g5,z3,z4,z5,g6,g7⟩,_⟩:=bo.opq ab;have e4:=hid<|hr ab ao bn cx bo cD;have e5:=hid<|ht ab;generalize ao.setCell ⟨H,4,none⟩ (.bool ab)=h4 at*;obtain⟨e6,e7⟩:=Aq<|DJ (.mk k m u g ab rL d ks) G a7;have hL:Hid<|e6=S:=e7.symm.trans az;rw[e7.out]at e4 e5;go_wp2_with fail
     refine rQ e4 ?_;rintro e h5 ⟨rfl,hM,h6⟩;have hN:=hid hM;go_wp2;go_ret;obtain rfl:=hL.out;exact⟨e6.2,rfl,hN,λe=>⟨rfl,e5 e⟩⟩
theorem Dr.below{w':World}{G:Bool}(h:Dr B w p G P e)(hb:Bw w w'):Dr B w' p G P e:=by
 obtain⟨cs,E,H,I,J,O,Z⟩:=h;refine⟨cs,E,H,I,J,λe=>?_,Z⟩;obtain⟨f,f1,f2,f3,f4,f5,f6,f7⟩:=O e;exact⟨f,f1,f2,f3,f4.on<|Ai hb,f5,⟨f6.t,f6.dir,f6.nd.on<|Ai hb,f6.there,f6.no⟩,f7⟩
theorem Dr.set{H:Bool}(h:Dr B w p H P e)(Z:∀s∈Bo p.data.toList,s≠⟨#[]⟩){n:Nat}(I:∀o,w.cell? (aD n o)=([.bool false,iN 0,iN 0,iN 0,.bool false,.bool false,iN 0,iN 0,iN 0,.bool false,nL,.bool false,iN 0,iN 0,iN 0,iN 0,.bool false,nL,.string ⟨#[]⟩,nL,iN 0]:List Value)[o]?)(ab:List Value):Dr B (w.setCells n 0 ab) p H P e:=by
 obtain⟨cs,E,ad,ak,al,ao,ap⟩:=h;refine⟨cs,E,ad,ak,al,λe=>?_,ap⟩;obtain⟨f,f1,f2,f3,f4,f5,f6,f7⟩:=ao e
 refine⟨f,f1,f2,f3,?_,f5,⟨f6.t,f6.dir,(Ie (λar aw=>by
  have e:ar=n:=by simpa using aw
  subst e;exact O9 I) f6.nd).on<|LG<|NB _ _,f6.there,f6.no⟩,f7⟩
 rcases f4 with e|⟨J,az,aA,O⟩
 .exact .inl e
 .refine .inr ⟨J,az,aA,λi s G=>(Ck ?_).trans<|O i s G⟩
  intro e;have e:J=n:=e;subst e;exact Z s (by rw[<-f3];exact NW G)<|PD<|(I _).symm.trans<|O i s G
noncomputable def Bk.opP (c:Bk) (p:BA) (dir:Bool):Except Int Gv:=match c.atP true p with
 |.error E=>.error E
 |.ok f=>if f.1.d=dir then(if c.bx.mayE f.1 4=0 then .ok f else .error (c.bx.mayE f.1 4))else .error 7
abbrev Qn:=λG H I J O Z (X:World)=>(Ce X G 0 (.bool H)/\Ce X G 1 (iN I)/\Ce X G 2 (iN J)/\Ce X G 3 (iN O)/\Ce X G 4 (.bool Z):Prop)
theorem V5(h:A6 w b B)(bf:BN B x0 rM)(cpath:BA)(dir:Bool)(b4:Int)(c6:Ce w (1) 0<|iN b4):
 Calls prog 121 #[pO b 0,.string cpath,.bool dir] w λe w'=>Dr B w' cpath true (B.cor.opP cpath dir) e/\Bw w w':=by
 obtain⟨P,ab⟩:=Aq<|B.cor.opP cpath dir;rw[ab.out];unfold Bk.opP at ab;have bg:Bw w<|w.alloc A2:=(NB _ _).alloc (rP _) _;have bi:=hid bg;have b6:=hid<|Bj.new w _ rfl DB 216;have c8:Hid (∀q,(w.alloc A2).frozen? ⟨w.heap.size,q,none⟩=false):=λq=>RB _ _ _ _ rfl;have c9:Hid (∀o,(w.alloc A2).cell? ⟨w.heap.size,o,none⟩=DB[o]?):=λo=>by rw[rO _ _ _ _ rfl];simp
 have da:Hid (Calls prog 119 #[pO b 0,.string cpath] (w.alloc A2) λe w'=>Dr B w' cpath true (B.cor.atP true cpath) e/\Bw (w.alloc A2) w'):=by
  refine rQ (LX (h.below bg) bf.good cpath (Eg _).1 (Eg _).2 b4<|Aj bg c6) ?_;rintro e w' ⟨dd,de⟩;exact⟨KH bf.good dd,de⟩
 have dg:=hid h;have eg:=hid bf;go_enter func121,ntmps121;go_upto_region 1 with fail
 generalize(w.alloc A2)=b7 at*;go_wp2_with fail
 refine rQ da ?_;rintro e H ⟨dj,q2⟩;obtain⟨cs,E,rfl,b9,dk,dm,dn⟩:=dj;obtain⟨ad,ej,ao,bk,dp⟩:=JP H cs b9 dk;have dr:=Cn cs;unfold Value.cells at dr;have a1:=hid b9;have az:=hid<|q2.trans<|bk.out.mono q2.size;have a6:=hid<|bi.trans<|az.mono bi.size;have ds:Hid _:=dm;have du:Hid _:=dn;have ek:=hid<|Rz bi.size q2.size;have a7:w.heap.size<b7.heap.size:=NF b7 ⟨w.heap.size,0,none⟩<|b6 0 _ rfl;have em:=N1 a7 q2.size;have bl:=hid<|b6.below az;have bn:Hid (∀q,ad.frozen? ⟨w.heap.size,q,none⟩=false):=λq=>(az.frozen (p:=⟨w.heap.size,q,none⟩) a7).trans<|c8 q;by_cases bb:E=0
 .subst bb
  obtain⟨f,al,ce,cf,ch,cl,ap,co,bo⟩:=ds rfl;rw[bo]at ab;obtain⟨⟨G,I,J,O,Z⟩,bp,na,nc,ry,bq,⟨bs,bu,bx,bA,bB,bC,bF,xs⟩,en,ly⟩:=f;have cr:=ap.t;dsimp only[Fd.pur]at cr bo;replace ab:Hid<|(if G=dir then(if B.mayE ⟨G,I,J,O,Z⟩ 4=0 then .ok (⟨G,I,J,O,Z⟩,bp,bq,.mk bs bu bx bA bB bC bF xs,ly)else .error (B.mayE ⟨G,I,J,O,Z⟩ 4))else .error 7)=P:=ab.out;have dw:Ce ad H.heap.size 0<|.bool G:=ao 0 _ (by rw[al];rfl);have dx:Ce ad H.heap.size 1<|iN I:=ao 1 _ (by rw[al];rfl);have dy:Ce ad H.heap.size 2<|iN J:=ao 2 _ (by rw[al];rfl);have dz:Ce ad H.heap.size 3<|iN O:=ao 3 _ (by rw[al];rfl);have dT:Ce ad H.heap.size 4<|.bool Z:=ao 4 _ (by rw[al];rfl);rw[show Ao 0=Value.nilIface from rfl];have d0:Hid (∀w',Bw H w'->∀R,(R=0->P=.ok (⟨G,I,J,O,Z⟩,bp,bq,.mk bs bu bx bA bB bC bF xs,ly))->(R≠0->P=.error R)->Dr B w' cpath true P (.returned<|.tuple #[Cg cs,Ao R])):=λw' hb R d1 d2=>⟨cs,R,rfl,a1,by rw[al];exact FT _,λe=>⟨_,al,ce,cf,ch.on<|Ai hb,cl,⟨ap.t,ap.dir,ap.nd.on<|Ai hb,ap.there,ap.no⟩,co,d1 e⟩,d2⟩;have d3:Hid (∀v∈cs,v.oneCell'=true):=by rw[al];exact FT _
  clear al ce cf ch cl ap co bo dp;by_cases bd:G=dir
  .subst bd
   have d4:=hid<|KF ((dg.below a6).below (NB _ _).drew) ⟨G,I,J,O,Z⟩ 4 cr.1;rw[NS rfl]at ab;generalize B.mayE ⟨G,I,J,O,Z⟩ 4=R at*;have d5:Hid<|R=0->P=.ok (⟨G,I,J,O,Z⟩,bp,bq,.mk bs bu bx bA bB bC bF xs,ly):=λe=>by rw[<-ab.out,NS e]
   have d6:Hid<|R≠0->P=.error R:=λe=>by rw[<-ab.out,NO e]
   have ar:ad.drew.rangeAt H.heap.size 0 cs/\(Qn H.heap.size G I J O Z ad.drew):=⟨ao,dw,dx,dy,dz,dT⟩;have eo:=hid ao;have ep:(G !=G)=false:=by simp
   have eq:(G==G)=true:=by simp
   skip
   all_goals
    go_upto_region 6 with fail
    refine wp_region_held_drew (S:=λw'=>w'.rangeAt H.heap.size 0 cs/\(Qn H.heap.size G I J O Z w')) oK ar λbe=>?_;refine RF (i:=0) (oi:=_) (v:=Cg cs) rfl oK oK oK (λ_ _ _ h=>h) (yieldsIf_load_mid (by rfl) _ _ rfl _ _ rfl cs _ (λw h=>h.1) underlying216 rfl (by rw[a1.out];rfl)) be ?_;simp only[Act.put,List.setIfInBounds_toArray];refine RF (i:=1) (oi:=_) (v:=pO b 0) rfl oK oK oK (λ_ _ _ h=>h) (Or.inl ⟨by rfl,λw d7=>by go_simp⟩) be ?_;simp only[Act.put];refine RF (i:=2) (oi:=_) (v:=pO H.heap.size 0) rfl oK oK oK (λ_ _ _ h=>h) (Or.inl ⟨by rfl,λw d7=>by go_simp⟩) be ?_;simp only[Act.put];refine tI 3 _ (.agg #[.bool G,iN I,iN J,iN O,.bool Z]) be ?_;simp only[Act.put];refine wpAnyH_ready (rs:=[4]) oK oS ?_;refine AllReadyH.cons (o:=_) rfl (λK a8=>?_) AllReadyH.nil;rw[NS<|by rfl];go_simp;refine rQ d4.out ?_;rintro e ak ⟨rfl,q9⟩;have aw:ak.rangeAt H.heap.size 0 cs/\(Qn H.heap.size G I J O Z ak):=⟨Bj.below ar.1 q9,Aj q9 ar.2.1,Aj q9 ar.2.2.1,Aj q9 ar.2.2.2.1,Aj q9 ar.2.2.2.2.1,Aj q9 ar.2.2.2.2.2⟩;have cx:=hid<|(bl.below (NB _ _).drew).below q9;have d8:Hid (∀q,ak.frozen? ⟨w.heap.size,q,none⟩=false):=λq=>(q9.frozen (p:=⟨w.heap.size,q,none⟩)<|N1 a7 az.size).trans<|bn q;have er:=En (P:=prog) cx d8 (by rw[a1.out];rfl) d3
    have cD:=hid<|FC cs cx (by rw[a1.out];rfl);have cF:Hid<|Bw w<|ak.setCells w.heap.size 0 cs:=Fc cs (rP _)<|a6.trans<|((NB _ ad).drew.trans q9).mono a6.size;have aA:∀o,(ak.setCells w.heap.size 0 cs).cell? ⟨H.heap.size,o,none⟩=ak.cell? ⟨H.heap.size,o,none⟩:=λo=>Ck (by show H.heap.size≠w.heap.size;omega);have c3:(ak.setCells w.heap.size 0 cs).rangeAt H.heap.size 0 cs/\(Qn H.heap.size G I J O Z<|ak.setCells w.heap.size 0 cs):=⟨λj v d9=>(aA _).trans<|aw.1 j v d9,(aA _).trans aw.2.1,(aA _).trans aw.2.2.1,(aA _).trans aw.2.2.2.1,(aA _).trans aw.2.2.2.2.1,(aA _).trans aw.2.2.2.2.2⟩
    have c4:=hid ((d0 ak (bk.out.trans<|((NB _ ad).drew.trans q9).mono bk.out.size) R d5 d6).set (Eg _).2 (λo=>(q9.cell (p:=⟨w.heap.size,o,none⟩)<|N1 a7 az.size).trans<|(az.cell (p:=⟨w.heap.size,o,none⟩) a7).trans<|c9 o) cs);go_wp2_with fail
    refine a8 _ _ aw λes=>?_;refine wpAnyH_ready (rs:=[5]) oK oS ?_;refine AllReadyH.cons (o:=_) rfl (λK a8=>?_) AllReadyH.nil;rw[NS<|by rfl];go_simp;refine a8 _ _ c3 λeu=>?_;refine wpAnyH_ready (rs:=[6]) oK oS ?_;refine AllReadyH.cons (o:=_) rfl (λK a8=>?_) AllReadyH.nil;rw[NS<|by rfl];go_simp;refine a8 _ _ c3 λev=>?_;refine KL oK ?_ _;generalize ak.setCells w.heap.size 0 cs=eb at cD cF c4⊢;have ed:=run_loadVar_mid (P:=prog) eb w.heap.size 0 216 cs _ cD rfl rfl (by rw[a1.out];rfl);go_wp2;refine NZ (v:=.tuple #[.agg cs.toArray,Ao R]) ?_ rfl ⟨c4,cF⟩;simp[results,results121,asAddr,ed]
  .have ew:(G !=dir)=true:=by simp[bd]
   have ey:(G==dir)=false:=by simpa using bd
   rw[NO bd]at ab;go_upto_region 5 with fail
   obtain⟨c0,bG,ba,bH,ee,ef,bY,b0,_⟩:=Le bl bn (rP _) a6;have b1:=run_loadVar_mid (P:=prog) bG (w.heap.size) 0 216 c0 _ bY rfl rfl (by rw[ba.out];rfl);have b2:=Cn c0;unfold Value.cells at b2;go_wp2;refine NZ (v:=.tuple #[.agg c0.toArray,.iface 101<|iN 7]) ?_ rfl ⟨⟨c0,7,rfl,ba,bH,λe=>absurd e oD,λ_=>ab.symm⟩,b0⟩;simp[results,results121,asAddr,b1]
 .have c5:=AP (n:=E) rfl bb
  rw[du.out bb]at ab;rw[c5];go_upto_region 3 with fail
  obtain⟨c0,bG,ba,bH,ee,ef,bY,b0,_⟩:=Le bl bn (rP _) a6;have b1:=run_loadVar_mid (P:=prog) bG (w.heap.size) 0 216 c0 _ bY rfl rfl (by rw[ba.out];rfl);have b2:=Cn c0;unfold Value.cells at b2;go_wp2;refine NZ (v:=.tuple #[.agg c0.toArray,.iface 101<|iN E]) ?_ rfl ⟨⟨c0,E,by rw[c5];rfl,ba,bH,λe=>absurd e (bb),λ_=>ab.symm⟩,b0⟩;simp[results,results121,asAddr,b1]
structure EH (w W:World) (ra rb:Nat) (vs us:List Value):Prop where
 bel:Bw w W
 ga:w.heap.size<=ra
 gb:w.heap.size<=rb
 ne:ra≠rb
 a:∀o,W.cell? (aD ra o)=vs[o]?
 b:∀o,W.cell? (aD rb o)=us[o]?
 fa:∀q,W.frozen? (aD ra q)=false
 fb:∀q,W.frozen? (aD rb q)=false
 la:vs.length=21
 lb:us.length=21
theorem EH.rowA{H:List Value}(h:EH w W G I H us):Bj W G 0 H:=λi v J=>by rw[RT,h.a,J]
theorem EH.rowB{I:List Value}(h:EH w W H G I us):Bj W G 0 us:=λi v J=>by rw[RT,h.b,J]
theorem EH.lta{H:List Value}(h:EH w W G I H us):G<W.heap.size:=NF W (aD G 0)<|h.rowA 0 (H[0]'(by rw[h.la];omega))<|NA (by rw[h.la];omega)
theorem EH.ltb{I:List Value}(h:EH w W H G I us):G<W.heap.size:=NF W (aD G 0)<|h.rowB 0 (us[0]'(by rw[h.lb];omega))<|NA (by rw[h.lb];omega)
theorem EH.below{I:World}{J:List Value}(h:EH w W G H J us)(hb:Bw W I):EH w I G H J us:=
 ⟨h.bel.trans<|hb.mono h.bel.size,h.ga,h.gb,h.ne,λo=>(hb.cell (p:=(aD G o)) h.lta).trans<|h.a o,λo=>(hb.cell (p:=(aD H o)) h.ltb).trans<|h.b o,λo=>(hb.frozen (p:=(aD G o)) h.lta).trans<|h.fa o,λo=>(hb.frozen (p:=(aD H o)) h.ltb).trans<|h.fb o,h.la,h.lb⟩
theorem So{r:Nat}{G:List Value}(H:∀o,W.cell? (aD r o)=G[o]?)(h:G.length=cs.length)(o:Nat):(W.setCells r 0 cs).cell? (aD r o)=cs[o]?:=by
 have J:Bj W r 0 G:=λi v O=>by rw[RT,H,O]
 rcases Nat.lt_or_ge o cs.length with I|I
 .have e:=FC cs J h o cs[o]<|NA I
  grind
 .rw[<-J1,KC _ _ _ (λj Z e=>by injection e with _ e2;omega),H,tP oM,tP oM]
theorem EH.setA{J:List Value}(h:EH w W G H J us)(cs:List Value)(I:cs.length=21):EH w (W.setCells G 0 cs) G H cs us:=
 ⟨Fc cs h.ga h.bel,h.ga,h.gb,h.ne,So h.a<|by rw[I,h.la],λo=>(Ck λe=>h.ne e.symm).trans<|h.b o,λq=>by rw[CF];exact h.fa q,λq=>by rw[CF];exact h.fb q,I,h.lb⟩
theorem EH.setB{I:List Value}(h:EH w W H G I us)(cs:List Value)(J:cs.length=21):EH w (W.setCells G 0 cs) H G I cs:=
 ⟨Fc cs h.gb h.bel,h.ga,h.gb,h.ne,λo=>(Ck<|h.ne).trans<|h.a o,So h.b<|by rw[J,h.lb],λq=>by rw[CF];exact h.fa q,λq=>by rw[CF];exact h.fb q,h.la,J⟩
theorem EH.zero{J:Nat}{ab:List Value}(T:EH w W I J ab us):∃c0 Z H,Hid (c0.length=21)/\Hid (∀v∈c0,v.oneCell'=true)/\Value.agg #[.bool false,iN 0,iN 0,iN 0,.bool false,.bool false,iN 0,iN 0,iN 0,.bool false,nL,.bool false,iN 0,iN 0,iN 0,iN 0,.bool false,nL,.string ⟨#[]⟩,nL,iN 0]=Cg c0/\(storeCells (aD I 0) c0 0).run prog W=.ok () Z/\(storeCells (aD J 0) c0 0).run prog Z=.ok () H/\(loadVar 216<|aD I 0).run prog H=.ok (.agg c0.toArray) H/\(loadVar 216<|aD J 0).run prog H=.ok (.agg c0.toArray) H/\Bw w H:=by
 obtain⟨c0,G,O,ad⟩:=z21;have A:=T.setA c0 G;have B:=A.setB c0 G;exact⟨c0,_,_,G,O,ad,En T.rowA T.fa (T.la.trans G.symm) O,En A.rowB A.fb (A.lb.trans G.symm) O,run_loadVar_mid _ _ _ _ _ _ B.rowA rfl rfl (by rw[G];rfl),run_loadVar_mid _ _ _ _ _ _ B.rowB rfl rfl (by rw[G];rfl),B.bel⟩
theorem O6{r:Nat}(H:∀o,W.cell? (aD r o)=cs[o]?):AW W.cell? (W.setCells r 0 cs).cell?:=λq v G=>by
 obtain⟨I,O,J⟩:=q;by_cases hb:I=r
 .subst hb
  cases J with
  |none=>rw[So H rfl,<-H];exact G
  |some s=>rw[<-J1,KC _ _ _ (λj _ e=>by injection e with _ _ e3;cases e3)];exact G
 .exact(Ck hb).trans G
theorem Dr.mle{w':World}{G:Bool}(h:Dr B w p G P e)(hb:AW w.cell? w'.cell?):Dr B w' p G P e:=by
 obtain⟨cs,E,H,I,J,O,Z⟩:=h;refine⟨cs,E,H,I,J,λe=>?_,Z⟩;obtain⟨f,f1,f2,f3,f4,f5,f6,f7⟩:=O e;exact⟨f,f1,f2,f3,f4.on hb,f5,⟨f6.t,f6.dir,f6.nd.on hb,f6.there,f6.no⟩,f7⟩
theorem Dr.both{G:Bool}{E:Int}(h:Dr B w p G P<|.returned<|.tuple #[Cg cs,Ao E]):(E=0->∃f:Fd,cs=f.l/\Dq p.data.toList=0/\f.ry=Bo p.data.toList/\Bi w.cell? f.na f.ry/\(f.ry.length<=f.nc/\f.nc<=9223372036854775807)/\Jc B w f.ry f/\(G=true->f.there=true)/\P=.ok f.pur)/\(E≠0->P=.error E):=by
 obtain⟨H,I,J,_,_,O,Z⟩:=h;grind [Cg,Wy]
noncomputable def Bk.endE (c:Bk) (p o:BA):Int:=if p.data.toList=[47]then 15 else if o.data.toList=[47]then 15 else if Dq p.data.toList≠0 then Dq p.data.toList else if Dq o.data.toList≠0 then Dq o.data.toList else match c.atP true p with
 |.error E=>E
 |.ok f=>if c.bx.takE f.1 f.2.1=0 then(match c.atP false o with
  |.error E=>E
  |.ok _=>0)else c.bx.takE f.1 f.2.1
def av(B:Bx)(w:World)(p o:BA)(S:Int)(e:Ending):Prop:=∃cs G E,e=.returned (.tuple #[Cg cs,Cg G,Ao E])/\(cs.length=21/\G.length=21)/\((∀v∈cs,v.oneCell'=true)/\∀v∈G,v.oneCell'=true)/\E=S/\(E=0->(p.data.toList≠[47]/\o.data.toList≠[47])/\Dr B w p true (B.cor.atP true p) (.returned<|.tuple #[Cg cs,Ao 0])/\Dr B w o false (B.cor.atP false o) (.returned<|.tuple #[Cg G,Ao 0]))
theorem Wc(h:A6 w b B)(O:Kh B)(Z:Dq p.data.toList=0){an:Option Addr}{rN:Nat}{N:List BA}(ab:Bo p.data.toList=N)(H:Bi w.cell? an N)(I:N.length<=rN/\rN<=9223372036854775807):
 Calls prog 211 #[pO b 0,.slice an N.length rN] w λe w'=>(∃cs E G,e=.returned (.tuple #[Cg cs,Ao E])/\Hu B w' p (.returned<|.tuple #[Cg cs,Ao E])/\cs.length=21/\(∀v∈cs,v.oneCell'=true)/\cs[11]? =some (.bool G))/\Bw w w':=by
 subst ab;go_call Xi h O (an:=an) (rN:=rN) (ry:=Bo p.data.toList) H (Eg _).1 as e w' ⟨hk,c⟩
 have J:Hu B w' p e:=.inr ⟨Z,an,rN,H.on<|Ai c,I.1,I.2,hk⟩;obtain⟨cs,E,G,rfl,ad,ak,al⟩:=J.form;exact⟨⟨cs,E,G,rfl,J,ad,ak,al⟩,c⟩
theorem jl(h:A6 w b B)(eq:BN B x0 rM){cop cA cB:Int}{cpath coth cname cdata:BA}(bY:Int)(dk:Ce w (1) 0<|iN bY):
 Calls prog 170 #[pO b 0,Fr cop cpath coth cname cdata cA cB] w λe w'=>av B w' cpath coth (B.cor.endE cpath coth) e/\Bw w w':=by
 obtain⟨ap,G⟩:∃S,Hid<|B.cor.endE cpath coth=S:=⟨_,rfl⟩;rw[G.out];unfold Bk.endE at G;have bs:Bw w<|w.alloc<|AY cop cpath coth cname cdata cA cB:=(NB _ _).alloc (rP _) _;have b0:Bw w<|((w.alloc<|AY cop cpath coth cname cdata cA cB).alloc A2).alloc A2:=(bs.alloc bs.size _).alloc (bs.alloc bs.size _).size _;have p1:Ce (((w.alloc<|AY cop cpath coth cname cdata cA cB).alloc A2).alloc A2) w.heap.size 1<|.string cpath:=Bz<|Bz<|rO _ _ _ _ rfl;have p2:Ce (((w.alloc<|AY cop cpath coth cname cdata cA cB).alloc A2).alloc A2) w.heap.size 2<|.string coth:=Bz<|Bz<|rO _ _ _ _ rfl;have b1:Hid<|EH w (((w.alloc<|AY cop cpath coth cname cdata cA cB).alloc A2).alloc A2) (w.heap.size+1) (w.heap.size+1+1) DB DB:=by
  have b2:(w.alloc<|AY cop cpath coth cname cdata cA cB).heap.size=w.heap.size+1:=ND _ _;have dm:((w.alloc<|AY cop cpath coth cname cdata cA cB).alloc A2).heap.size=w.heap.size+1+1:=by rw[ND,b2]
  have dn:Bw ((w.alloc<|AY cop cpath coth cname cdata cA cB).alloc A2)<|((w.alloc<|AY cop cpath coth cname cdata cA cB).alloc A2).alloc A2:=(NB _ _).alloc (rP _) _;refine⟨b0,by omega,by omega,by omega,λo=>?_,λo=>?_,λq=>?_,λq=>?_,rfl,rfl⟩
  .rw[dn.cell (p:=⟨w.heap.size+1,o,none⟩) (by show w.heap.size+1<_;omega),rO _ _ _ _ b2.symm];simp
  .rw[rO _ _ _ _ dm.symm];simp
  .rw[dn.frozen (p:=⟨w.heap.size+1,q,none⟩) (by show w.heap.size+1<_;omega)];exact RB _ _ _ _ b2.symm
  .exact RB _ _ _ _ dm.symm
 have b4:=hid h;have bu:=hid eq;have dp:Hid (∀a7 s,Calls prog 165 #[.string s] a7 λe w'=>(∃r,e=.returned (.bool r)/\(r=false->s.data.toList≠[47])/\(r=true->s.data.toList=[47]))/\a7=w'):=λa7 s=>Vb a7 s;have dr:Hid _:=QO cpath (((w.alloc<|AY cop cpath coth cname cdata cA cB).alloc A2).alloc A2) bY<|Aj b0 dk
 obtain⟨F,b6⟩:=Aq<|Dq cpath.data.toList;obtain⟨N,ds⟩:=Aq<|Bo cpath.data.toList;rw[b6.out,ds.out]at dr;have er:=hid<|Aj b0 dk;go_enter func170,ntmps170;go_upto_region 1 with fail
 generalize(((w.alloc<|AY cop cpath coth cname cdata cA cB).alloc A2).alloc A2)=a7 at*;generalize w.heap.size+1+1=a8 at*;generalize w.heap.size+1=az at*;go_wp2_with fail
 refine rQ (dp _ _) ?_;rintro e es ⟨⟨r,rfl,ba,b7⟩,rfl⟩;cases r with
 |true=>
  have Z:Hid<|15=ap:=(NS<|b7 rfl).symm.trans G;go_upto_region 2 with fail
  obtain⟨c0,bb,aA,H,I,bd,be,bf,ab,ad,ak⟩:=b1.out.zero;have al:=Cn c0;unfold Value.cells at al;go_wp2;refine NZ (v:=.tuple #[.agg c0.toArray,.agg c0.toArray,.iface 101<|iN 15]) ?_ rfl ⟨⟨c0,c0,15,rfl,⟨H,H⟩,⟨I,I⟩,Z,λe=>absurd e oD⟩,ak⟩;simp[results,results170,asAddr,ab,ad]
 |false=>
  have eu:=hid<|ba rfl;rw[NO<|ba rfl]at G;go_wp2_with fail
  refine rQ (dp _ _) ?_;rintro e es ⟨⟨r,rfl,ba,b7⟩,rfl⟩;cases r with
  |true=>
   have Z:Hid<|15=ap:=(NS<|b7 rfl).symm.trans G;go_upto_region 2 with fail
   obtain⟨c0,bb,aA,H,I,bd,be,bf,ab,ad,ak⟩:=b1.out.zero;have al:=Cn c0;unfold Value.cells at al;go_wp2;refine NZ (v:=.tuple #[.agg c0.toArray,.agg c0.toArray,.iface 101<|iN 15]) ?_ rfl ⟨⟨c0,c0,15,rfl,⟨H,H⟩,⟨I,I⟩,Z,λe=>absurd e oD⟩,ak⟩;simp[results,results170,asAddr,ab,ad]
  |false=>
   have ev:=hid<|ba rfl;rw[NO<|ba rfl]at G;go_wp2_with fail
   refine rQ dr ?_;rintro e du ⟨⟨dw,cp,rfl,b9,ce,cf⟩,c2⟩;have dx:=hid<|b1.below c2;have fe:=Aj c2 p2;have dy:Hid _:=QO coth du bY<|Aj c2 er.out;obtain⟨F2,ch⟩:∃F,Hid<|Dq coth.data.toList=F:=⟨_,rfl⟩;obtain⟨bx,cl⟩:∃N,Hid<|Bo coth.data.toList=N:=⟨_,rfl⟩;rw[ch.out,cl.out]at dy;rw[b6.out,ch.out]at G;have ew:Hid<|N.length<=cp/\cp<=9223372036854775807:=⟨b9,ce⟩;have co:Hid<|Bi du.cell? dw N:=cf;by_cases hF:F=0
   case neg=>
    have ao:=AP (n:=F) rfl hF;have Z:Hid<|F=ap:=(NS hF).symm.trans G;rw[ao];go_upto_region 5 with fail
    obtain⟨c0,bb,aA,H,I,bd,be,bf,ab,ad,ak⟩:=dx.out.zero;have al:=Cn c0;unfold Value.cells at al;go_wp2;refine NZ (v:=.tuple #[.agg c0.toArray,.agg c0.toArray,.iface 101<|iN F]) ?_ rfl ⟨⟨c0,c0,F,by rw[ao];rfl,⟨H,H⟩,⟨I,I⟩,Z,λe=>absurd e (hF)⟩,ak⟩;simp[results,results170,asAddr,ab,ad]
   case pos=>
    subst hF;rw[NO oD]at G;rw[show Ao 0=Value.nilIface from rfl];go_wp2_with fail
    refine rQ dy ?_;rintro e dz ⟨⟨cr,dT,rfl,b9,ce,cf⟩,d0⟩;have cx:=hid<|dx.below d0;have ey:Hid<|bx.length<=dT/\dT<=9223372036854775807:=⟨b9,ce⟩;have cD:Hid<|Bi dz.cell? cr bx:=cf;have ez:Hid<|Bi dz.cell? dw N:=co.on<|Ai d0;by_cases bA:F2=0
    case neg=>
     have ao:=AP (n:=F2) rfl bA;have Z:Hid<|F2=ap:=(NS bA).symm.trans G;rw[ao];go_upto_region 8 with fail
     obtain⟨c0,bb,aA,H,I,bd,be,bf,ab,ad,ak⟩:=cx.out.zero;have al:=Cn c0;unfold Value.cells at al;go_wp2;refine NZ (v:=.tuple #[.agg c0.toArray,.agg c0.toArray,.iface 101<|iN F2]) ?_ rfl ⟨⟨c0,c0,F2,by rw[ao];rfl,⟨H,H⟩,⟨I,I⟩,Z,λe=>absurd e (bA)⟩,ak⟩;simp[results,results170,asAddr,ab,ad]
    case pos=>
     subst bA;rw[NO oD]at G;rw[show Ao 0=Value.nilIface from rfl];have cF:=hid<|Wc (b4.below cx.bel) bu.good b6 ds ez ew;go_wp2_with fail
     refine rQ cF ?_;rintro e eB ⟨⟨cs,E,bg,rfl,c3,a1,bi,c4⟩,d1⟩;have eD:Hid _:=Uh eB cs a1 bi bg c4 E;go_wp2_with fail
     refine rQ eD ?_;rintro e c5 ⟨rfl,c6⟩;obtain⟨J,D,d2,c8,d3⟩:=Ws cs a1 bi E bg;have bk:=hid<|(cx.below d1).below c6;have eE:Hid<|Bi c5.cell? cr bx:=(cD.on<|Ai d1).on<|Ai c6;have eF:=KH bu.good ⟨cs,E,bg,c3.below c6,a1,c4,by rw[d2]⟩;have bB:=hid<|eF.set (Eg _).2 bk.a J;have d4:Hid<|Bi (c5.setCells az 0 J).cell? cr bx:=by
      rcases eE.out with e|⟨d5,eL,eX,d6⟩
      .exact .inl e
      .refine .inr ⟨d5,eL,eX,λi s c9=>(Ck ?_).trans<|d6 i s c9⟩
       intro e;have e:d5=az:=e;subst e;exact(Eg coth.data.toList).2 s (by rw[cl.out];exact NW c9) (PD<|(bk.a _).symm.trans<|d6 i s c9)
     have da:=En (P:=prog) bk.rowA bk.fa (by rw[c8];rfl) d3;have bl:=hid<|bk.setA J c8;generalize c5.setCells az 0 J=ff at da bl bB d4;have dd:=Cn J;unfold Value.cells at dd;have bn:=hid c8;have d7:=hid d3;rw[d2];by_cases bC:D=0
     case neg=>
      have ao:=AP (n:=D) rfl bC;rw[bB.out.both.2 bC]at G;have Z:Hid<|D=ap:=G.out;rw[ao];go_upto_region 11 with fail
      obtain⟨c0,bb,aA,H,I,bd,be,bf,ab,ad,ak⟩:=bl.out.zero;have al:=Cn c0;unfold Value.cells at al;go_wp2;refine NZ (v:=.tuple #[.agg c0.toArray,.agg c0.toArray,.iface 101<|iN D]) ?_ rfl ⟨⟨c0,c0,D,by rw[ao];rfl,⟨H,H⟩,⟨I,I⟩,Z,λe=>absurd e (bC)⟩,ak⟩;simp[results,results170,asAddr,ab,ad,Ao]
     case pos=>
      subst bC;obtain⟨f,d8,e0,e1,e2,e3,d9,e4,eb⟩:=bB.both.1 rfl;rw[eb]at G;replace G:Hid<|(if B.takE f.t f.dir=0 then(match B.cor.atP false coth with|.error E=>E|.ok _=>0)else B.takE f.t f.dir)=ap:=G.out;have ed:=hid<|Sd (b4.below bl.bel) J f.t f.dir (by rw[d8];obtain⟨t,dir,na,nc,ry,bg,⟨fg,fh,fo,fp,fs,ft,fx,xs⟩,gb,ly⟩:=f;rfl) d9.dir.1;generalize B.takE f.t f.dir=R at ed G;clear d8 e0 e1 e2 e3 d9 e4 eb f;rw[show Ao 0=Value.nilIface from rfl];go_upto_region 12 with fail
      refine tn ?_;refine OA rfl _ rfl ?_;simp only[tk];refine wpList_load_mid rfl _ _ rfl _ _ rfl J _ bl.rowA rfl rfl (by rw[bn.out];rfl) ?_;simp only[tk];go_wp2_with fail
      refine rQ ed ?_;rintro e gg ⟨rfl,q7⟩;have de:=hid<|bl.below q7;have e5:=hid<|bB.below q7;have e6:=hid<|d4.on<|Ai q7;by_cases bF:R=0
      case neg=>
       have ao:=AP (n:=R) rfl bF;have Z:Hid<|R=ap:=(NO bF).symm.trans G;rw[ao];go_upto_region 14 with fail
       obtain⟨c0,bb,aA,H,I,bd,be,bf,ab,ad,ak⟩:=de.out.zero;have al:=Cn c0;unfold Value.cells at al;go_wp2;refine NZ (v:=.tuple #[.agg c0.toArray,.agg c0.toArray,.iface 101<|iN R]) ?_ rfl ⟨⟨c0,c0,R,by rw[ao];rfl,⟨H,H⟩,⟨I,I⟩,Z,λe=>absurd e (bF)⟩,ak⟩;simp[results,results170,asAddr,ab,ad,Ao]
      case pos=>
       subst bF;rw[NS rfl]at G;rw[show Ao 0=Value.nilIface from rfl];have cF:=hid<|Wc (b4.below de.bel) bu.good ch cl e6 ey;go_wp2_with fail
       refine rQ cF ?_;rintro e e7 ⟨⟨O,E,bg,rfl,c3,a1,bi,c4⟩,ee⟩;have bo:=hid<|de.below ee;have ef:=hid<|(PP bu.good c3).set (Eg _).2 bo.b O;have eg:=hid<|(e5.below ee).set (Eg _).2 bo.b O;have da:=En (P:=prog) bo.rowB bo.fb (by rw[a1];rfl) bi;have ej:=hid<|bo.setB O a1;generalize e7.setCells a8 0 O=bp at da ej eg ef;have bG:=hid a1;have ek:=hid bi;have dd:=Cn O;unfold Value.cells at dd;go_upto_region 16 with fail
       have dg:Bw bp bp.drew:=(NB _ _).drew;have a6:=hid<|ej.below dg;have e8:=hid<|eg.below dg;have e9:=hid<|ef.below dg;have fa:bp.drew.rangeAt az 0 J/\bp.drew.rangeAt a8 0 O:=⟨a6.rowA,a6.rowB⟩;refine wp_region_held_drew (S:=λw'=>w'.rangeAt az 0 J/\w'.rangeAt a8 0 O) oK fa λdj=>?_;refine RF (i:=0) (oi:=_) (v:=Cg J) rfl oK oK oK (λ_ _ _ h=>h) (yieldsIf_load_mid (by rfl) _ _ rfl _ _ rfl J _ (λw h=>h.1) underlying216 rfl (by rw[bn.out];rfl)) dj ?_;simp only[Act.put,List.setIfInBounds_toArray];refine RF (i:=1) (oi:=_) (v:=Cg O) rfl oK oK oK (λ_ _ _ h=>h) (yieldsIf_load_mid (by rfl) _ _ rfl _ _ rfl O _ (λw h=>h.2) underlying216 rfl (by rw[bG.out];rfl)) dj ?_;simp only[Act.put];refine RF (i:=2) (oi:=_) (v:=Ao E) rfl oK oK oK (λ_ _ _ h=>h) (Or.inl ⟨by rfl,λw gl=>by go_simp⟩) dj ?_;simp only[Act.put];have co:=En (P:=prog) a6.rowA a6.fa rfl d7;have ar:=hid<|a6.setA J bn;have em:=hid<|e8.mle<|O6 a6.a;have en:=hid<|e9.mle<|O6 a6.a;generalize bp.drew.setCells az 0 J=aA at co ar em en;have cD:=En (P:=prog) ar.rowB ar.fb rfl ek;have aw:=hid<|ar.setB O bG;have eo:=hid<|em.mle<|O6 ar.b;have bH:=hid<|en.mle<|O6 ar.b;generalize aA.setCells a8 0 O=ep at cD aw eo bH;have Z:Hid<|E=ap:=by
        show E=ap;rw[<-G.out];by_cases e:E=0
        .obtain⟨_,_,_,_,_,_,_,_,fb⟩:=bH.both.1 e
         rw[fb,e]
        .rw[bH.out.both.2 e]
       have fc:=Cn J;unfold Value.cells at fc;have fd:=Cn O;unfold Value.cells at fd;refine wpAnyH_ready (rs:=[3]) oK oS ?_;refine AllReadyH.cons (o:=_) rfl (λK bq=>?_) AllReadyH.nil;rw[NS<|by rfl];go_simp;refine bq _ _ ⟨ar.rowA,ar.rowB⟩ λgo=>?_;refine wpAnyH_ready (rs:=[4]) oK oS ?_;refine AllReadyH.cons (o:=_) rfl (λK bq=>?_) AllReadyH.nil;rw[NS<|by rfl];go_simp;refine bq _ _ ⟨aw.rowA,aw.rowB⟩ λgq=>?_;refine wpAnyH_ready (rs:=[5]) oK oS ?_;refine AllReadyH.cons (o:=_) rfl (λK bq=>?_) AllReadyH.nil;rw[NS<|by rfl];go_simp;refine bq _ _ ⟨aw.rowA,aw.rowB⟩ λgr=>?_;refine KL oK ?_ _;have ab:=run_loadVar_mid (P:=prog) ep az 0 216 J _ aw.rowA rfl rfl (by rw[bn.out];rfl);have ad:=run_loadVar_mid (P:=prog) ep a8 0 216 O _ aw.rowB rfl rfl (by rw[bG.out];rfl);go_wp2;refine NZ (v:=.tuple #[.agg J.toArray,.agg O.toArray,Ao E]) ?_ rfl ⟨⟨J,O,E,rfl,⟨bn,bG⟩,⟨d7,ek⟩,Z,λe=>⟨⟨eu,ev⟩,eo,by have q:=bH.out;rw[e]at q;exact q⟩⟩,aw.bel⟩;simp[results,results170,asAddr,ab,ad]
def NV(x0:Nd)(rM:List Nd)(G H:Bool)(ly:Int)(fn I:List BA):Int:=if G=true/\(decide (ly=0)&&(H|| !G5 (x0::rM) fn))=false then 14 else if 6<IntKind.i64.wrap ((I.length:Int)+Mq ((Ct fn x0).getD zN))then 2 else 0
def Bk.mmE(c:Bk)(x0:Nd)(rM:List Nd)(f t:Gv)(fn G:List BA):Int:=if FY fn G=true then 3 else if c.bx.mayE t.2.1 2=0 then(if t.2.2.1=true then(if f.1.d=true then 6 else if t.1.d=true then 6 else if c.bx.takE t.1 t.2.1=0 then NV x0 rM f.1.d f.2.2.2.1.opq f.2.2.2.2 fn G else c.bx.takE t.1 t.2.1)else NV x0 rM f.1.d f.2.2.2.1.opq f.2.2.2.2 fn G)else c.bx.mayE t.2.1 2
def ah(B:Bx)(x0:Nd)(rM:List Nd)(f t:Fd)(e:Ending):Prop:=e=.returned (Ao<|B.cor.mmE x0 rM f.pur t.pur f.ry t.ry)
abbrev TN:=λH I (J:List BA) mc nx k m u g o (G:Hd) (rL:List Kv) d (ks:Ay) (X:World)=>(Ce X (H+1) 10 (.slice I J.length mc)/\Ce X nx 0 (iN k)/\Ce X nx 1 (iN m)/\Ce X nx 2 (iN u)/\Ce X nx 3 (iN g)/\Ce X nx 4 (.bool o)/\Ce X nx 5 (.slice G.aa rL.length G.ca)/\Ce X nx 6 (.string d)/\Ce X nx 7 (.slice G.ak ks.length G.ck):Prop)
theorem bU(h:A6 w b B)(b2:BN B x0 rM)(f t:Fd)(en:Jc B w f.ry f)(cx:Jc B w t.ry t)(cD:Bi w.cell? f.na f.ry)(dr:Bi w.cell? t.na t.ry)(eo:f.ry.length<=6)(ep:t.ry.length<=6)(ds:f.ry.length<=f.nc/\f.nc<=9223372036854775807):
 Calls prog 172 #[pO b 0,Cg f.l,Cg t.l] w λe w'=>ah B x0 rM f t e/\Bw w w':=by
 unfold ah;obtain⟨S,G⟩:=Aq<|B.cor.mmE x0 rM f.pur t.pur f.ry t.ry;rw[G.out];unfold Bk.mmE at G;obtain⟨H,eq⟩:∃H,JH f.l H:=⟨_,rfl⟩;obtain⟨J,er⟩:∃J,JH t.l J:=⟨_,rfl⟩;have bk:f.l=H:=eq;have ao:t.l=J:=er;have es:H.length=21:=by rw[<-bk];exact FU _
 have eu:J.length=21:=by rw[<-ao];exact FU _
 rw[bk,ao];have du:Bw w<|w.alloc<|Bm H:=(NB _ _).alloc (rP _) _;have dw:Bw (w.alloc<|Bm H)<|(w.alloc<|Bm H).alloc<|Bm J:=(NB _ _).alloc (rP _) _;have b4:=du.trans<|dw.mono du.size;have cF:Bj ((w.alloc<|Bm H).alloc<|Bm J) w.heap.size 0 H:=Bj.below (Bj.new2 w _ rfl H 216) dw;have be:Bj ((w.alloc<|Bm H).alloc<|Bm J) (w.heap.size+1) 0 J:=Bj.new2 (w.alloc<|Bm H) _ (by rw[ND]) J 216;obtain⟨⟨bs,g6,g7,g8,g9⟩,ha,an,rN,ry,hc,⟨he,hf,hg,hh,b6,hi,hj,xs⟩,hk,ly⟩:=f;obtain⟨⟨sd,b7,b9,ce,cf⟩,⟨az,aA,a1,a6,a7⟩,bu,bx,a8,c3,⟨hl,hm,hn,ho,hp,hr,hs,ht⟩,hu,hv⟩:=t;dsimp only at en cx cD dr eo ep ds;replace G:Hid<|(if FY ry a8=true then 3 else if B.mayE ⟨az,aA,a1,a6,a7⟩ 2=0 then(if c3=true then(if bs=true then 6 else if sd=true then 6 else if B.takE ⟨sd,b7,b9,ce,cf⟩ ⟨az,aA,a1,a6,a7⟩=0 then NV x0 rM bs b6 ly ry a8 else B.takE ⟨sd,b7,b9,ce,cf⟩ ⟨az,aA,a1,a6,a7⟩)else NV x0 rM bs b6 ly ry a8)else B.mayE ⟨az,aA,a1,a6,a7⟩ 2)=S:=G.out;have f0:Ce ((w.alloc<|Bm H).alloc<|Bm J) w.heap.size 0<|.bool bs:=cF 0 _ (by rw[<-bk];rfl);have f10:Ce ((w.alloc<|Bm H).alloc<|Bm J) w.heap.size 10<|.slice an ry.length rN:=cF 10 _ (by rw[<-bk];rfl);have t0:Ce ((w.alloc<|Bm H).alloc<|Bm J) (w.heap.size+1) 0<|.bool sd:=be 0 _ (by rw[<-ao];rfl);have t5:Ce ((w.alloc<|Bm H).alloc<|Bm J) (w.heap.size+1) 5<|.bool az:=be 5 _ (by rw[<-ao];rfl);have hw:Ce ((w.alloc<|Bm H).alloc<|Bm J) (w.heap.size+1) 6<|iN aA:=be 6 _ (by rw[<-ao];rfl);have hy:Ce ((w.alloc<|Bm H).alloc<|Bm J) (w.heap.size+1) 7<|iN a1:=be 7 _ (by rw[<-ao];rfl);have hz:Ce ((w.alloc<|Bm H).alloc<|Bm J) (w.heap.size+1) 8<|iN a6:=be 8 _ (by rw[<-ao];rfl);have t9:Ce ((w.alloc<|Bm H).alloc<|Bm J) (w.heap.size+1) 9<|.bool a7:=be 9 _ (by rw[<-ao];rfl);have ev:Ce ((w.alloc<|Bm H).alloc<|Bm J) (w.heap.size+1) 10<|.slice bu a8.length bx:=be 10 _ (by rw[<-ao];rfl);have ew:Ce ((w.alloc<|Bm H).alloc<|Bm J) (w.heap.size+1) 11<|.bool c3:=be 11 _ (by rw[<-ao];rfl);have ey:=hid cF;have ez:=hid be;have eB:=hid es;have eD:=hid eu;have dx:=hid<|cD.on<|Ai b4;have eE:=hid<|dr.on<|Ai b4;have c4:=hid b4;have eF:Hid<|ry.length<=1000:=by show ry.length<=1000;omega
 obtain⟨dy,dz⟩:=Aq<|FY ry a8;have eL:Hid (Calls prog 224 #[.slice an ry.length rN,.slice bu a8.length bx] ((w.alloc<|Bm H).alloc<|Bm J) λe w'=>e=.returned (.bool dy)/\((w.alloc<|Bm H).alloc<|Bm J)=w'):=by
  have e:=fy an bu rN bx ry a8 ((w.alloc<|Bm H).alloc<|Bm J) oM oM dx eE;rw[dz.out]at e;exact e
 obtain⟨R,dT⟩:=Aq<|B.mayE ⟨az,aA,a1,a6,a7⟩ 2;have eX:Hid (Calls prog 156 #[pO b 0,Gc az aA a1 a6 a7,iN 2] ((w.alloc<|Bm H).alloc<|Bm J) λe w'=>e=.returned (Ao R)/\Bw ((w.alloc<|Bm H).alloc<|Bm J) w'):=by
  have e:=KF (h.below b4) ⟨az,aA,a1,a6,a7⟩ 2 cx.dir.1;rw[dT.out]at e;exact e
 obtain⟨ch,d0⟩:∃R,Hid<|B.takE ⟨sd,b7,b9,ce,cf⟩ ⟨az,aA,a1,a6,a7⟩=R:=⟨_,rfl⟩;have e0:Hid (∀w',Bw w w'->Calls prog 166 #[pO b 0,Cg J] w' λe bl=>e=.returned (Ao ch)/\Bw w' bl):=λw' hb=>by
  have e:=Sd (h.below hb) J ⟨sd,b7,b9,ce,cf⟩ ⟨az,aA,a1,a6,a7⟩ (by rw[<-ao];rfl) cx.dir.1;rw[d0.out]at e;exact e
 have e1:Hid (∀w',Bw w w'->Calls prog 225 #[pO b 0,Cg H] w' λe bl=>ae x0 rM ry b6 ly e/\Bw w' bl):=λw' hb=>iA (h.below hb) b2 H (by rw[<-bk];rfl) (by rw[<-bk];rfl) (by rw[<-bk];rfl) (cD.on<|Ai hb) oM ds;have hA:=h
 have d1:Hid (∀c5,Bw w c5->∀w',Bw c5 w'->Calls prog 85 #[pO b 0] w' λe bl=>(∃h',e=.returned (At x0 h')/\Am bl.cell? x0 h')/\Bw w' bl):=λc5 e2 w' hb=>by
  have d2:=(h.below e2).below hb;have d3:=d2.lay;have d4:=d2.cells.2.2.1;rw[b2.xs]at d3 d4;refine rQ (IU d4 d3) ?_;rintro e bl ⟨⟨h',e3,_,e4⟩,e5⟩;exact⟨⟨h',e3,e4⟩,e5⟩
 have c6:Hid<|cnt x0<=800/\A7 x0:=by
  have:=b2.fine.cnt;exact⟨by omega,Id x0 oM b2.fine.lil⟩
 obtain⟨V,c8⟩:=Aq<|x0;rw[c8.out]at d1 c6;obtain⟨Y,d5⟩:=Aq<|(Ct ry V).getD zN;obtain⟨cl,e6⟩:∃b,Hid<|(Ct ry V).isSome=b:=⟨_,rfl⟩;obtain⟨k,m,u,g,o,rL,d,ks⟩:=Y;have e7:=Cn H;unfold Value.cells at e7;have e8:=Cn J;unfold Value.cells at e8;rw[dz.out,dT.out,d0.out]at G;unfold NV at G;rw[show x0=V from c8.out,d5.out]at G;obtain⟨e9,d6⟩:∃D,Hid<|Mq (.mk k m u g o rL d ks)=D:=⟨_,rfl⟩;rw[d6.out]at G;obtain⟨fa,d7⟩:∃r,Hid<|(decide (ly=0)&&(b6|| !G5 (V::rM) ry))=r:=⟨_,rfl⟩;rw[d7.out]at G;go_enter func172,ntmps172;go_wp2_with fail
 generalize((w.alloc<|Bm H).alloc<|Bm J)=hB at*;refine rQ eL ?_;rintro e hC ⟨rfl,rfl⟩;cases dy with
 |true=>
  obtain rfl:3=S:=(NS rfl).symm.trans G;go_wp2;go_ret;exact⟨rfl,c4⟩
 |false=>
  replace G:=hid<|(NO oD).symm.trans G;go_wp2_with fail
  refine rQ eX.out ?_;rintro e d8 ⟨rfl,d9⟩;have ba:=hid d9;have bb:=hid<|c4.trans<|d9.mono c4.size;by_cases c9:R=0;rotate_left
  .have bF:=AP (n:=R) rfl c9
   rw[bF];go_wp2;go_ret;obtain rfl:R=S:=(NO c9).symm.trans G;exact⟨by rw[bF];rfl,bb⟩
  subst c9;replace G:=hid<|(NS rfl).symm.trans G;rw[show Ao 0=Value.nilIface from rfl];have da:=Aj ba f0;have hD:=Aj ba ew;have hE:=Aj ba t0;cases c3;rotate_left
  focus
   replace G:=hid<|(NS rfl).symm.trans G;cases bs;rotate_left
   .obtain rfl:6=S:=(NS rfl).symm.trans G
    go_wp2;go_ret;exact⟨rfl,bb⟩
   replace G:=hid<|(NO oD).symm.trans G;cases sd;rotate_left
   .obtain rfl:6=S:=(NS rfl).symm.trans G
    go_wp2;go_ret;exact⟨rfl,bb⟩
   replace G:=hid<|(NO oD).symm.trans G;go_upto_region 9 with fail
   refine tn ?_;refine tq (by rfl) λK ad=>?_;go_simp;refine ad _ _ ?_;refine tq (by rfl) λK ad=>?_;refine wp_load_mid _ _ rfl _ _ rfl J _ (Bj.below ez ba) rfl rfl (by rw[eD.out];rfl) (ad _ _ ?_);simp only[tk];go_wp2_with fail
   refine rQ (e0 d8 bb) ?_;rintro e I ⟨rfl,q4⟩;have bG:=hid<|ba.trans<|q4.mono ba.size;have bn:=hid<|bb.trans<|q4.mono bb.size;have hG:=Aj q4 da;by_cases dd:ch=0;rotate_left
   .have bF:=AP (n:=ch) rfl dd
    rw[bF];go_wp2;go_ret;obtain rfl:ch=S:=(NO dd).symm.trans G;exact⟨by rw[bF];rfl,bn⟩
   subst dd;replace G:=hid<|(NS rfl).symm.trans G;replace G:=hid<|(NO (λe=>by cases e.1)).symm.trans G;rw[show Ao 0=Value.nilIface from rfl]
  rotate_left
  focus
   replace G:=hid<|(NO oD).symm.trans G;cases bs
   focus
    replace G:=hid<|(NO (λe=>by cases e.1)).symm.trans G;rename World=>I
    have bG:=ba;have bn:=bb
   rotate_left
   focus
    go_upto_region 12 with fail
    refine tn ?_;refine tq (by rfl) λK ad=>?_;go_simp;refine ad _ _ ?_;refine tq (by rfl) λK ad=>?_;go_simp;refine ad _ _ ?_;refine tq (by rfl) λK ad=>?_;go_simp;refine ad _ _ ?_;refine tq (by rfl) λK ad=>?_;go_simp;refine ad _ _ ?_;refine tq (by rfl) λK ad=>?_;go_simp;refine ad _ _ ?_;refine tq (by rfl) λK ad=>?_;refine wp_load_mid _ _ rfl _ _ rfl H _ (Bj.below ey ba) rfl rfl (by rw[eB.out];rfl) (ad _ _ ?_);simp only[tk];go_wp2_with fail
    refine rQ (e1 d8 bb) ?_;rintro e I ⟨rfl,q4⟩;rw[show x0=V from c8.out,d7.out];have bG:=hid<|ba.trans<|q4.mono ba.size;have bn:=hid<|bb.trans<|q4.mono bb.size;cases fa
    .obtain rfl:14=S:=(NS oS).symm.trans G
     go_wp2;go_ret;exact⟨rfl,bn⟩
    replace G:=hid<|(NO (λe=>by cases e.2)).symm.trans G
  all_goals
   have bg:=Aj bG f10;have eb:=Aj bG ev;have fb:=hid<|dx.on<|Ai bG;have ed:=hid<|d1 I bn;have ee:Ce I.drew w.heap.size 10<|.slice an ry.length rN:=bg;have de:Hid<|Bw I I.drew:=(NB _ _).drew;have co:Hid<|Bw I (I.alloc AO).drew:=((NB _ _).alloc (rP _) _).drew;have fc:Ce (I.alloc AO).drew w.heap.size 10<|.slice an ry.length rN:=Aj co bg;have fd:Hid (Calls prog 85 #[pO b 0] I.drew λe w'=>(∃h',e=.returned (At V h')/\Am w'.cell? V h')/\Bw I.drew w'):=ed _ de;have fe:Hid (Calls prog 85 #[pO b 0] (I.alloc AO).drew λe w'=>(∃h',e=.returned (At V h')/\Am w'.cell? V h')/\Bw (I.alloc AO).drew w'):=ed _ co;have dg:Hid (∀(O:World) (ap:Hd),Bw I O->Am O.cell? V ap->Calls prog 176 #[At V ap,.slice an ry.length rN] O λe ar=>(∃h',e=.returned (.tuple #[(Ba k m u g o rL d ks h'),.bool cl])/\Am ar.cell? (.mk k m u g o rL d ks) h')/\Bw O ar):=λO ap ff bA=>by
    have e:=OJ bA an rN ry (fb.on<|Ai ff) eF c6.1 c6.2;rw[d5.out,e6.out]at e;exact e
   have bH:w.heap.size<I.heap.size:=NF I ⟨w.heap.size,10,none⟩ bg;go_upto_region 14 with fail
   go_region_held3 (λw'=>Ce w' w.heap.size 10<|.slice an ry.length rN) (first|with_reducible exact ee|with_reducible exact fc|with_reducible exact dj|with_reducible exact bB|(with_reducible refine Bz ?_;with_reducible exact ee)|(with_reducible refine Bz ?_;with_reducible exact dj)|(with_reducible refine Bz ?_;with_reducible exact bB)|(with_reducible refine Jq ?_ bB;show w.heap.size≠_;have g4:=dk.out;omega)|(with_reducible refine Jq ?_ bB;show w.heap.size≠_;skip;omega)) (first|(go_at_call 85;(with_reducible refine rQ fd.out ?_);rintro e O ⟨⟨ap,rfl,bA⟩,q6⟩;have ak:Hid<|Bw I O:=de.out.trans<|q6.mono de.out.size;have dj:Ce O w.heap.size 10<|.slice an ry.length rN:=(ak.out.cell (p:=⟨w.heap.size,10,none⟩) bH).trans bg;have cr:Hid (Calls prog 176 #[At V ap,.slice an ry.length rN] O λe ar=>(∃h',e=.returned (.tuple #[(Ba k m u g o rL d ks h'),.bool cl])/\Am ar.cell? (.mk k m u g o rL d ks) h')/\Bw O ar):=dg.out O ap ak.out bA;have ef:Hid (Calls prog 176 #[At V ap,.slice an ry.length rN] (O.alloc AO) λe ar=>(∃h',e=.returned (.tuple #[(Ba k m u g o rL d ks h'),.bool cl])/\Am ar.cell? (.mk k m u g o rL d ks) h')/\Bw (O.alloc AO) ar):=dg.out _ ap (ak.out.alloc ak.out.size _)<|bA.on<|Ai<|(NB _ _).alloc (rP _) _)|(go_at_call 85;(with_reducible refine rQ fe.out ?_);rintro e O ⟨⟨ap,rfl,bA⟩,q6⟩;have ak:Hid<|Bw I O:=co.out.trans<|q6.mono co.out.size;have dj:Ce O w.heap.size 10<|.slice an ry.length rN:=(ak.out.cell (p:=⟨w.heap.size,10,none⟩) bH).trans bg;have cr:Hid (Calls prog 176 #[At V ap,.slice an ry.length rN] O λe ar=>(∃h',e=.returned (.tuple #[(Ba k m u g o rL d ks h'),.bool cl])/\Am ar.cell? (.mk k m u g o rL d ks) h')/\Bw O ar):=dg.out O ap ak.out bA;have fg:Hid<|Dg O I.heap.size:=((Dg.new I).below<|(NB _ _).drew).below q6)|(go_at_call 176;(with_reducible refine rQ cr.out ?_);rintro e Z ⟨⟨ab,rfl,bo⟩,q7⟩;have al:Hid<|Bw I Z:=ak.out.trans<|q7.mono ak.out.size;have bB:Ce Z w.heap.size 10<|.slice an ry.length rN:=(al.out.cell (p:=⟨w.heap.size,10,none⟩) bH).trans bg;have fh:Hid<|Bw O Z:=q7;have bY:Hid<|Am Z.cell? (.mk k m u g o rL d ks) ab:=bo;have b0:Hid<|Dg Z I.heap.size:=fg.out.below q7;obtain⟨⟨⟨z0,fo,fp,z3,z4,z5,fs,ft⟩,dm⟩,_⟩:=id b0.out;obtain⟨fx,gb,gg,gl,go,gq,gr,gu⟩:=f8 dm;clear cr bo q7)|(go_at_call 176;(with_reducible refine rQ cr.out ?_);rintro e Z ⟨⟨ab,rfl,bo⟩,q7⟩;have al:Hid<|Bw I Z:=ak.out.trans<|q7.mono ak.out.size;have bB:Ce Z w.heap.size 10<|.slice an ry.length rN:=(al.out.cell (p:=⟨w.heap.size,10,none⟩) bH).trans bg;have fh:Hid<|Bw O Z:=q7;have bY:Hid<|Am Z.cell? (.mk k m u g o rL d ks) ab:=bo)|(go_at_call 176;(with_reducible refine rQ ef.out ?_);rintro e Z ⟨⟨ab,rfl,bo⟩,q7⟩;have al:Hid<|Bw I Z:=(ak.out.alloc ak.out.size _).trans<|q7.mono<|Rz ak.out.size ((NB _ _).alloc (rP _) _:Bw O _).size;have bB:Ce Z w.heap.size 10<|.slice an ry.length rN:=(al.out.cell (p:=⟨w.heap.size,10,none⟩) bH).trans bg;have bY:Hid<|Am Z.cell? (.mk k m u g o rL d ks) ab:=bo;have b0:Hid<|Dg Z O.heap.size:=(Dg.new O).below q7;have dk:Hid<|I.heap.size<=O.heap.size:=ak.out.size;obtain⟨⟨⟨z0,fo,fp,z3,z4,z5,fs,ft⟩,dm⟩,_⟩:=id b0.out;obtain⟨fx,gb,gg,gl,go,gq,gr,gu⟩:=f8 dm;clear ef bo q7))
   all_goals
    first|(obtain⟨bf,bC,aw,bi⟩:=Dg.store b0 bY;have aw:=al.out.trans<|aw.below (B:=I.heap.size) dk al.size;generalize b1:As Z O.heap.size (.mk k m u g o rL d ks) ab=bp at bf bC aw bi;simp only[As]at b1;rw[b1];generalize dn:O.heap.size=bq at bf bi⊢;have dp:I.heap.size<=bq:=(by rw[<-dn];exact dk))|(obtain⟨bf,bC,aw,bi⟩:=Dg.store b0 bY;have aw:=al.out.trans<|aw.below (B:=I.heap.size) (rP _) al.size;generalize b1:As Z I.heap.size (.mk k m u g o rL d ks) ab=bp at bf bC aw bi;simp only[As]at b1;rw[b1];generalize dn:I.heap.size=bq at bf bi⊢;have dp:I.heap.size<=bq:=(by rw[<-dn];exact(rP _)))|(obtain⟨bf,bC,aw,bi⟩:AC (Z.alloc<|Aw k m u g o rL d ks ab) Z.heap.size (.mk k m u g o rL d ks) ab/\Am (Z.alloc<|Aw k m u g o rL d ks ab).cell? (.mk k m u g o rL d ks) ab/\Bw I (Z.alloc<|Aw k m u g o rL d ks ab)/\(∀eg,8<=eg->(Z.alloc<|Aw k m u g o rL d ks ab).cell? ⟨Z.heap.size,eg,none⟩=none):=⟨AC.new Z k m u g o rL d ks ab,bY.on<|Ai<|(NB _ _).alloc (rP _) _,al.alloc al.size _,λo gv=>(by rw[rO _ _ _ _ rfl];exact C4<|by simpa using gv)⟩;have dp:=al.out.size;generalize Z.alloc (Aw k m u g o rL d ks ab)=bp at bf bC aw bi⊢;generalize Z.heap.size=bq at bf bi dp⊢)
    have gw:=(aw.cell (p:=⟨w.heap.size+1,10,none⟩)<|NF _ _ eb).trans eb;have ej:Hid<|Bw w bp:=bn.trans<|aw.mono bn.size;obtain⟨da,g1,gx,g3,g4,gy,gz,g0⟩:=id bf.1;have bd:(TN w.heap.size bu a8 bx bq k m u g o ab rL d ks bp.drew):=⟨gw,da,g1,gx,g3,g4,gy,gz,g0⟩;have g2:Hid (Calls prog 226 #[(Ba k m u g o rL d ks ab)] bp.drew λe w'=>e=.returned (iN e9)/\Bw bp.drew w'):=by have e:=gi (w:=bp.drew) bC _<|NB _ _;rw[d6.out]at e;exact e
    go_upto_region 15 with fail
    go_region_held3 (λw'=>(TN w.heap.size bu a8 bx bq k m u g o ab rL d ks w')) (first|with_reducible exact bd|with_reducible exact g5) (first|(go_at_call 226;(with_reducible refine rQ g2.out ?_);rintro e ek ⟨rfl,q8⟩;have g5:(TN w.heap.size bu a8 bx bq k m u g o ab rL d ks ek):=⟨Aj q8 bd.1,Aj q8 bd.2.1,Aj q8 bd.2.2.1,Aj q8 bd.2.2.2.1,Aj q8 bd.2.2.2.2.1,Aj q8 bd.2.2.2.2.2.1,Aj q8 bd.2.2.2.2.2.2.1,Aj q8 bd.2.2.2.2.2.2.2.1,Aj q8 bd.2.2.2.2.2.2.2.2⟩;have em:Hid<|Bw w ek:=ej.out.drew.trans<|q8.mono ej.out.drew.size))
    all_goals
     go_wp2
     all_goals
      go_ret;rename_i hq;first
      |(obtain rfl:2=S:=(NS hq).symm.trans G
        exact⟨rfl,em⟩)
      |(obtain rfl:0=S:=(NO oM).symm.trans G
        exact⟨rfl,em⟩)
end Go.Proofs.YtchpdmjlicmdaaaGreatDoor
